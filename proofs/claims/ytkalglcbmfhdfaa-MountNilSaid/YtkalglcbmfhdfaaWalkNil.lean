/- MountNil of grommetlaw24: every way. -/
import Derived.Test.YtkalglcbmfhdfaaPk23
import Derived.Test.YtkalglcbmfhdfaaGeo
-- OPTIONAL
namespace Go.Proofs.Ytkalglcbmfhdfaa.mountNil
open Go.RowKit Go.Grommet

theorem zeros_of : ofV ((List.replicate 64 PW.nought).map (·.seen)) = none := by kernel_rfl

set_option maxRecDepth 100000 in
set_option maxHeartbeats 4000000 in
theorem walk (x y z : Int) (w : World) (_ : (Lit.int .i64 x).wf = true) (_ : (Lit.int .i64 y).wf = true) (_ : (Lit.int .i64 z).wf = true) :
    Calls Try.prog 3 #[.agg #[.int .i64 x, .int .i64 y, .int .i64 z]] w fun e w' => e = .returned (.bool true) ∧ w.grownBy w' none := by
  obtain ⟨X, hX⟩ : ∃ X, w.heap.size = X := ⟨_, rfl⟩
  obtain ⟨u1, hu1⟩ : ∃ u, w.alloc (.cells #[.int .i64 x, .int .i64 y, .int .i64 z] 23) = u := ⟨_, rfl⟩
  have hO1 : Grommet.Own w u1 [boxP X 23 #[.int .i64 x, .int .i64 y, .int .i64 z]] := by rw [← hu1, ← hX]; exact (Own.nil w).addBox _ _
  have HNw := Lib.hid (MNewZero u1)
  have HSt := Lib.hid (MStepZero u1)
  have HPn := Lib.hid (NewH 64 w u1 _ hO1 (by omega) (by omega) (by omega))
  have HMn := Lib.hid (fun wx d (hO : Grommet.Own w wx ([boxP X 23 #[.int .i64 x, .int .i64 y, .int .i64 z]] ++ [devP d (List.replicate 64 PW.nought)])) => MNewNo 1 d (List.replicate 64 PW.nought) 8 w wx _ hO rfl (by simp) (by simp) (by intro v hv; rw [List.map_replicate] at hv; rw [List.eq_of_mem_replicate hv]; decide) zeros_of)
  have HSm := Lib.hid (fun wx => Small23 0 0 wx (by omega) (by omega))
  rw [show ((1 + 0 % 4 : Nat) : Int) = 1 from rfl, show ((22 + 0 % 39 : Nat) : Int) = 22 from rfl, show ((11 : Nat) : Int) = 11 from rfl] at HSm
  have HLe := Lib.hid (fun wx => MLeftZero wx)
  have HWo := Lib.hid (fun wx => MWorkerZero wx)
  have HGe := Lib.hid (fun wx => MGeoZero wx)
  have HF0 := Lib.hid (fun wx => MFormatZero x y z wx)
  have HF1 := Lib.hid (fun d wx => MFormatArg d 0 0 0 wx rfl)
  have HF2 := Lib.hid (fun wx d G (hO : Grommet.Own w wx [boxP X 23 #[.int .i64 x, .int .i64 y, .int .i64 z], devP d (List.replicate 64 PW.nought), boxP G 23 #[.int .i64 1, .int .i64 11, .int .i64 22]]) => MFormatFar 1 d 1 11 22 840 (List.replicate 64 PW.nought) w wx _ hO rfl rfl rfl (by simp))
  rw [show ((1 : Nat) : Int) = 1 from rfl, show ((22 : Nat) : Int) = 22 from rfl, show ((11 : Nat) : Int) = 11 from rfl] at HF2
  have HWk := Lib.hid (fun wx => works24 wx)
  have HGX := Lib.hid (fun wx Qs (hO : Grommet.Own w wx ([boxP X 23 #[.int .i64 x, .int .i64 y, .int .i64 z]] ++ Qs)) => GeoQ.cells (GeoP hO (k := 0) rfl))
  unfold nilV at HMn
  unfold gv at HSm HF2
  unfold ptr at HPn HMn HF2
  have HO1 := Lib.hid hO1
  clear hO1
  go_enter Try.func3, Try.ntmps3
  go_wp2_with fail
  refine HNw.out.mono ?_
  rintro e u2 ⟨rfl, hw⟩
  obtain rfl := hw.symm
  clear HNw hu1 hX
  go_wp2_with fail
  refine HSt.out.mono ?_
  rintro e u3 ⟨rfl, hw⟩
  obtain rfl := hw.symm
  clear HSt
  go_wp2_with fail
  refine HPn.out.mono ?_
  rintro e u4 ⟨d, rfl, hO4⟩
  have HM4 := Lib.hid (HMn.out u4 d hO4)
  clear HPn HMn hO4 HO1
  go_wp2_with fail
  refine HM4.out.mono ?_
  rintro e u5 ⟨rfl, hO5⟩
  have HO5 := Lib.hid hO5
  clear HM4 hO5
  go_wp2_with fail
  refine (HSm.out _).mono ?_
  rintro e u6 ⟨rfl, hg6⟩
  have hO7 := (HO5.out.quiet hg6).addBox 23 #[.int .i64 1, .int .i64 11, .int .i64 22]
  obtain ⟨u7, hu7⟩ : ∃ u, u6.alloc (.cells #[.int .i64 1, .int .i64 11, .int .i64 22] 23) = u := ⟨_, rfl⟩
  obtain ⟨G, hG⟩ : ∃ G, u6.heap.size = G := ⟨_, rfl⟩
  rw [hu7, hG] at hO7
  have hO7 : Grommet.Own w u7 ([boxP X 23 #[.int .i64 x, .int .i64 y, .int .i64 z]] ++ [devP d (List.replicate 64 PW.nought), boxP G 23 #[.int .i64 1, .int .i64 11, .int .i64 22]]) := hO7
  have HO7 := Lib.hid hO7
  clear HSm HO5 hg6 hO7
  go_wp2_with fail
  refine (HLe.out _).mono ?_
  rintro e u8 ⟨rfl, hw⟩
  obtain rfl := hw.symm
  clear HLe hu7 hG
  go_wp2_with fail
  refine (HWo.out _).mono ?_
  rintro e u8 ⟨rfl, hw⟩
  obtain rfl := hw.symm
  clear HWo
  go_wp2_with fail
  refine (HGe.out _).mono ?_
  rintro e u8 ⟨rfl, hg8⟩
  have HO8 := Lib.hid (HO7.out.quiet hg8)
  obtain ⟨c0, c1, c2⟩ := HGX.out u8 _ HO8.out
  clear HGe HO7 hg8
  go_wp2_with fail
  refine (HF0.out _).mono ?_
  rintro e u9 ⟨rfl, hg9⟩
  have HO9 := Lib.hid (HO8.out.quiet hg9)
  clear HF0 HO8 hg9 c0 c1 c2 HGX
  go_wp2_with fail
  refine (HF1.out d _).mono ?_
  rintro e v1 ⟨rfl, hg⟩
  have HP1 := Lib.hid (HO9.out.quiet hg)
  have HF3 := Lib.hid (HF2.out v1 d G HP1.out)
  obtain ⟨c0, c1, c2⟩ := GeoQ.cells (GeoP HP1.out (k := 2) rfl)
  clear HF1 HF2 HO9 hg
  go_wp2_with fail
  refine HF3.out.mono ?_
  rintro e v2 ⟨rfl, hO2⟩
  have hg := Lib.hid hO2.grown
  clear HF3 hO2 HP1 c0 c1 c2
  go_wp2_with fail
  refine (HWk.out _).mono ?_
  rintro e v3 ⟨rfl, hg3⟩
  have hgz := Lib.hid (grown_trans hg.out hg3)
  clear HWk hg hg3
  go_wp2
  go_ret
  exact ⟨rfl, hgz.out⟩
end Go.Proofs.Ytkalglcbmfhdfaa.mountNil
