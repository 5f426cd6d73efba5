/- Package request: what May's hand does at each field. -/
import Derived.Test.YtlphmpimpeekcaaReqB
namespace Go.Proofs.Ytlphmpimpeekcaa
open Go.RowKit Go.Grommet

inductive Fd where
  | path | flags | fd | size | data | at | to
def Fd.fn : Fd → Nat
  | .path => 47
  | .flags => 48
  | .fd => 49
  | .size => 50
  | .data => 51
  | .at => 52
  | .to => 53
def Rq.away (r : Rq) : Fd → Rq
  | .path => { r with p := ⟨#[]⟩ }
  | .flags => { r with fl := 0 }
  | .fd => { r with fd := 0 }
  | .size => { r with sz := 0 }
  | .data => { r with d := ⟨#[]⟩ }
  | .at => { r with at_ := 0 }
  | .to => { r with t := ⟨#[]⟩ }
def Rq.fits (r : Rq) : Fd → Bool
  | .path => decide (r.p.size ≤ 200)
  | .flags => decide (r.fl ≤ 7)
  | .fd => decide (r.fd ≤ 18446744073709551615)
  | .size => decide (r.sz ≤ 18446744073709551615)
  | .data => decide (r.d.size ≤ 128)
  | .at => decide (r.at_ ≤ 18446744073709551615)
  | .to => decide (r.t.size ≤ 200)

set_option maxRecDepth 100000 in
set_option maxHeartbeats 1000000 in
theorem away_path (k l R I : Nat) (r : Rq) (_hr : r.Ok) (b : Bool) (w0 w : World) (Ps : List Pr) (h : Grommet.Own w0 w Ps) (hk : Ps[k]? = some (boxP R 24 r.cs)) (hl : Ps[l]? = some (boxP I 4 #[.bool b])) (hkl : l ≠ k) :
    Calls Try.prog 47 #[.pointer (some ⟨R, 0, none⟩), .agg #[numF I, txtF I]] w fun e w' => (∃ v, e = .returned v) ∧ Grommet.Own w0 w' ((Ps.set l (boxP I 4 #[.bool (b && r.fits .path)])).set k (boxP R 24 (r.away .path).cs)) := by
  have hkn := (List.getElem?_eq_some_iff.1 hk).1
  have hln := (List.getElem?_eq_some_iff.1 hl).1
  have hO1 := h.addBox 47 #[numF I, txtF I]
  obtain ⟨B, hB⟩ : ∃ B, w.heap.size = B := ⟨_, rfl⟩
  rw [hB] at hO1
  obtain ⟨c1, _⟩ := own_cellB hO1 Ps.length (lastQ _ _) 1 rfl
  have hk1 : (Ps ++ [boxP B 47 #[numF I, txtF I]])[k]? = some (boxP R 24 r.cs) := by rw [List.getElem?_append_left hkn]; exact hk
  have hl1 : (Ps ++ [boxP B 47 #[numF I, txtF I]])[l]? = some (boxP I 4 #[.bool b]) := by rw [List.getElem?_append_left hln]; exact hl
  obtain ⟨c2, _⟩ := own_cellB hO1 k hk1 5 (u := .string r.p) rfl
  have HC := Lib.hid (awayTxt l I 200 r.p b w0 _ _ (hO1.quiet (grown_drew (World.grownBy.refl _ none))) hl1)
  have HS := Lib.hid (fun wx (hO : Grommet.Own w0 wx ((Ps ++ [boxP B 47 #[numF I, txtF I]]).set l (boxP I 4 #[.bool (b && r.fits .path)]))) => (show wx.cell? ⟨R, 5, none⟩ = some (.string r.p) ∧ wx.frozen? ⟨R, 5, none⟩ = false ∧ Grommet.Own w0 (wx.setCell ⟨R, 5, none⟩ (.string ⟨#[]⟩)) ((Ps.set l (boxP I 4 #[.bool (b && r.fits .path)])).set k (boxP R 24 (r.away .path).cs)) by
    have hk2 : ((Ps ++ [boxP B 47 #[numF I, txtF I]]).set l (boxP I 4 #[.bool (b && r.fits .path)]))[k]? = some (boxP R 24 r.cs) := by rw [List.getElem?_set_ne hkl]; exact hk1
    obtain ⟨a1, a2⟩ := own_cellB hO k hk2 5 (u := .string r.p) rfl
    have a3 := own_put hO k hk2 5 (.string ⟨#[]⟩)
    rw [List.set_append_left _ _ hln, List.set_append_left _ _ (by rw [List.length_set]; exact hkn)] at a3
    exact ⟨a1, a2, a3.less⟩))
  unfold numF txtF at *
  clear h hk hl hO1 hk1 hl1 hkn hln _hr
  go_enter Try.func47, Try.ntmps47
  go_upto_region 1 with fail
  go_region_law (go_simp; refine HC.out.mono ?_; rintro e w3 ⟨rfl, hO3⟩; obtain ⟨d1, d2, d3⟩ := HS.out w3 hO3; replace d3 := Lib.hid d3; clear HS hO3)
  all_goals go_wp2
  all_goals go_end0
  all_goals exact ⟨⟨_, rfl⟩, d3.out⟩

set_option maxRecDepth 100000 in
set_option maxHeartbeats 1000000 in
theorem away_flags (k l R I : Nat) (r : Rq) (hr : r.Ok) (b : Bool) (w0 w : World) (Ps : List Pr) (h : Grommet.Own w0 w Ps) (hk : Ps[k]? = some (boxP R 24 r.cs)) (hl : Ps[l]? = some (boxP I 4 #[.bool b])) (hkl : l ≠ k) :
    Calls Try.prog 48 #[.pointer (some ⟨R, 0, none⟩), .agg #[numF I, txtF I]] w fun e w' => (∃ v, e = .returned v) ∧ Grommet.Own w0 w' ((Ps.set l (boxP I 4 #[.bool (b && r.fits .flags)])).set k (boxP R 24 (r.away .flags).cs)) := by
  have hkn := (List.getElem?_eq_some_iff.1 hk).1
  have hln := (List.getElem?_eq_some_iff.1 hl).1
  have wf : IntKind.u64.wrap (r.fl : Int) = (r.fl : Int) := IntWalk.u64_in _ ⟨by omega, by have := hr.fl; omega⟩
  have hO1 := h.addBox 47 #[numF I, txtF I]
  obtain ⟨B, hB⟩ : ∃ B, w.heap.size = B := ⟨_, rfl⟩
  rw [hB] at hO1
  obtain ⟨c1, _⟩ := own_cellB hO1 Ps.length (lastQ _ _) 0 rfl
  have hk1 : (Ps ++ [boxP B 47 #[numF I, txtF I]])[k]? = some (boxP R 24 r.cs) := by rw [List.getElem?_append_left hkn]; exact hk
  have hl1 : (Ps ++ [boxP B 47 #[numF I, txtF I]])[l]? = some (boxP I 4 #[.bool b]) := by rw [List.getElem?_append_left hln]; exact hl
  obtain ⟨c2, _⟩ := own_cellB hO1 k hk1 1 (u := .int .u8 (r.fl : Int)) rfl
  have HC := Lib.hid (awayNum l I r.fl 7 b w0 _ _ (hO1.quiet (grown_drew (World.grownBy.refl _ none))) hl1)
  have HS := Lib.hid (fun wx (hO : Grommet.Own w0 wx ((Ps ++ [boxP B 47 #[numF I, txtF I]]).set l (boxP I 4 #[.bool (b && r.fits .flags)]))) => (show wx.cell? ⟨R, 1, none⟩ = some (.int .u8 (r.fl : Int)) ∧ wx.frozen? ⟨R, 1, none⟩ = false ∧ Grommet.Own w0 (wx.setCell ⟨R, 1, none⟩ (.int .u8 0)) ((Ps.set l (boxP I 4 #[.bool (b && r.fits .flags)])).set k (boxP R 24 (r.away .flags).cs)) by
    have hk2 : ((Ps ++ [boxP B 47 #[numF I, txtF I]]).set l (boxP I 4 #[.bool (b && r.fits .flags)]))[k]? = some (boxP R 24 r.cs) := by rw [List.getElem?_set_ne hkl]; exact hk1
    obtain ⟨a1, a2⟩ := own_cellB hO k hk2 1 (u := .int .u8 (r.fl : Int)) rfl
    have a3 := own_put hO k hk2 1 (.int .u8 0)
    rw [List.set_append_left _ _ hln, List.set_append_left _ _ (by rw [List.length_set]; exact hkn)] at a3
    exact ⟨a1, a2, a3.less⟩))
  unfold numF txtF at *
  clear h hk hl hO1 hk1 hl1 hkn hln hr
  go_enter Try.func48, Try.ntmps48
  go_upto_region 1 with fail
  go_region_law (go_simp; refine HC.out.mono ?_; rintro e w3 ⟨rfl, hO3⟩; obtain ⟨d1, d2, d3⟩ := HS.out w3 hO3; replace d3 := Lib.hid d3; clear HS hO3)
  all_goals go_wp2
  all_goals go_end0
  all_goals exact ⟨⟨_, rfl⟩, d3.out⟩

set_option maxRecDepth 100000 in
set_option maxHeartbeats 1000000 in
theorem away_fd (k l R I : Nat) (r : Rq) (_hr : r.Ok) (b : Bool) (w0 w : World) (Ps : List Pr) (h : Grommet.Own w0 w Ps) (hk : Ps[k]? = some (boxP R 24 r.cs)) (hl : Ps[l]? = some (boxP I 4 #[.bool b])) (hkl : l ≠ k) :
    Calls Try.prog 49 #[.pointer (some ⟨R, 0, none⟩), .agg #[numF I, txtF I]] w fun e w' => (∃ v, e = .returned v) ∧ Grommet.Own w0 w' ((Ps.set l (boxP I 4 #[.bool (b && r.fits .fd)])).set k (boxP R 24 (r.away .fd).cs)) := by
  have hkn := (List.getElem?_eq_some_iff.1 hk).1
  have hln := (List.getElem?_eq_some_iff.1 hl).1
  have hO1 := h.addBox 47 #[numF I, txtF I]
  obtain ⟨B, hB⟩ : ∃ B, w.heap.size = B := ⟨_, rfl⟩
  rw [hB] at hO1
  obtain ⟨c1, _⟩ := own_cellB hO1 Ps.length (lastQ _ _) 0 rfl
  have hk1 : (Ps ++ [boxP B 47 #[numF I, txtF I]])[k]? = some (boxP R 24 r.cs) := by rw [List.getElem?_append_left hkn]; exact hk
  have hl1 : (Ps ++ [boxP B 47 #[numF I, txtF I]])[l]? = some (boxP I 4 #[.bool b]) := by rw [List.getElem?_append_left hln]; exact hl
  obtain ⟨c2, _⟩ := own_cellB hO1 k hk1 2 (u := .int .u64 (r.fd : Int)) rfl
  have HC := Lib.hid (awayNum l I r.fd 18446744073709551615 b w0 _ _ (hO1.quiet (grown_drew (World.grownBy.refl _ none))) hl1)
  have HS := Lib.hid (fun wx (hO : Grommet.Own w0 wx ((Ps ++ [boxP B 47 #[numF I, txtF I]]).set l (boxP I 4 #[.bool (b && r.fits .fd)]))) => (show wx.cell? ⟨R, 2, none⟩ = some (.int .u64 (r.fd : Int)) ∧ wx.frozen? ⟨R, 2, none⟩ = false ∧ Grommet.Own w0 (wx.setCell ⟨R, 2, none⟩ (.int .u64 0)) ((Ps.set l (boxP I 4 #[.bool (b && r.fits .fd)])).set k (boxP R 24 (r.away .fd).cs)) by
    have hk2 : ((Ps ++ [boxP B 47 #[numF I, txtF I]]).set l (boxP I 4 #[.bool (b && r.fits .fd)]))[k]? = some (boxP R 24 r.cs) := by rw [List.getElem?_set_ne hkl]; exact hk1
    obtain ⟨a1, a2⟩ := own_cellB hO k hk2 2 (u := .int .u64 (r.fd : Int)) rfl
    have a3 := own_put hO k hk2 2 (.int .u64 0)
    rw [List.set_append_left _ _ hln, List.set_append_left _ _ (by rw [List.length_set]; exact hkn)] at a3
    exact ⟨a1, a2, a3.less⟩))
  unfold numF txtF at *
  clear h hk hl hO1 hk1 hl1 hkn hln _hr
  go_enter Try.func49, Try.ntmps49
  go_upto_region 1 with fail
  go_region_law (go_simp; refine HC.out.mono ?_; rintro e w3 ⟨rfl, hO3⟩; obtain ⟨d1, d2, d3⟩ := HS.out w3 hO3; replace d3 := Lib.hid d3; clear HS hO3)
  all_goals go_wp2
  all_goals go_end0
  all_goals exact ⟨⟨_, rfl⟩, d3.out⟩

set_option maxRecDepth 100000 in
set_option maxHeartbeats 1000000 in
theorem away_size (k l R I : Nat) (r : Rq) (_hr : r.Ok) (b : Bool) (w0 w : World) (Ps : List Pr) (h : Grommet.Own w0 w Ps) (hk : Ps[k]? = some (boxP R 24 r.cs)) (hl : Ps[l]? = some (boxP I 4 #[.bool b])) (hkl : l ≠ k) :
    Calls Try.prog 50 #[.pointer (some ⟨R, 0, none⟩), .agg #[numF I, txtF I]] w fun e w' => (∃ v, e = .returned v) ∧ Grommet.Own w0 w' ((Ps.set l (boxP I 4 #[.bool (b && r.fits .size)])).set k (boxP R 24 (r.away .size).cs)) := by
  have hkn := (List.getElem?_eq_some_iff.1 hk).1
  have hln := (List.getElem?_eq_some_iff.1 hl).1
  have hO1 := h.addBox 47 #[numF I, txtF I]
  obtain ⟨B, hB⟩ : ∃ B, w.heap.size = B := ⟨_, rfl⟩
  rw [hB] at hO1
  obtain ⟨c1, _⟩ := own_cellB hO1 Ps.length (lastQ _ _) 0 rfl
  have hk1 : (Ps ++ [boxP B 47 #[numF I, txtF I]])[k]? = some (boxP R 24 r.cs) := by rw [List.getElem?_append_left hkn]; exact hk
  have hl1 : (Ps ++ [boxP B 47 #[numF I, txtF I]])[l]? = some (boxP I 4 #[.bool b]) := by rw [List.getElem?_append_left hln]; exact hl
  obtain ⟨c2, _⟩ := own_cellB hO1 k hk1 4 (u := .int .u64 (r.sz : Int)) rfl
  have HC := Lib.hid (awayNum l I r.sz 18446744073709551615 b w0 _ _ (hO1.quiet (grown_drew (World.grownBy.refl _ none))) hl1)
  have HS := Lib.hid (fun wx (hO : Grommet.Own w0 wx ((Ps ++ [boxP B 47 #[numF I, txtF I]]).set l (boxP I 4 #[.bool (b && r.fits .size)]))) => (show wx.cell? ⟨R, 4, none⟩ = some (.int .u64 (r.sz : Int)) ∧ wx.frozen? ⟨R, 4, none⟩ = false ∧ Grommet.Own w0 (wx.setCell ⟨R, 4, none⟩ (.int .u64 0)) ((Ps.set l (boxP I 4 #[.bool (b && r.fits .size)])).set k (boxP R 24 (r.away .size).cs)) by
    have hk2 : ((Ps ++ [boxP B 47 #[numF I, txtF I]]).set l (boxP I 4 #[.bool (b && r.fits .size)]))[k]? = some (boxP R 24 r.cs) := by rw [List.getElem?_set_ne hkl]; exact hk1
    obtain ⟨a1, a2⟩ := own_cellB hO k hk2 4 (u := .int .u64 (r.sz : Int)) rfl
    have a3 := own_put hO k hk2 4 (.int .u64 0)
    rw [List.set_append_left _ _ hln, List.set_append_left _ _ (by rw [List.length_set]; exact hkn)] at a3
    exact ⟨a1, a2, a3.less⟩))
  unfold numF txtF at *
  clear h hk hl hO1 hk1 hl1 hkn hln _hr
  go_enter Try.func50, Try.ntmps50
  go_upto_region 1 with fail
  go_region_law (go_simp; refine HC.out.mono ?_; rintro e w3 ⟨rfl, hO3⟩; obtain ⟨d1, d2, d3⟩ := HS.out w3 hO3; replace d3 := Lib.hid d3; clear HS hO3)
  all_goals go_wp2
  all_goals go_end0
  all_goals exact ⟨⟨_, rfl⟩, d3.out⟩

set_option maxRecDepth 100000 in
set_option maxHeartbeats 1000000 in
theorem away_data (k l R I : Nat) (r : Rq) (_hr : r.Ok) (b : Bool) (w0 w : World) (Ps : List Pr) (h : Grommet.Own w0 w Ps) (hk : Ps[k]? = some (boxP R 24 r.cs)) (hl : Ps[l]? = some (boxP I 4 #[.bool b])) (hkl : l ≠ k) :
    Calls Try.prog 51 #[.pointer (some ⟨R, 0, none⟩), .agg #[numF I, txtF I]] w fun e w' => (∃ v, e = .returned v) ∧ Grommet.Own w0 w' ((Ps.set l (boxP I 4 #[.bool (b && r.fits .data)])).set k (boxP R 24 (r.away .data).cs)) := by
  have hkn := (List.getElem?_eq_some_iff.1 hk).1
  have hln := (List.getElem?_eq_some_iff.1 hl).1
  have hO1 := h.addBox 47 #[numF I, txtF I]
  obtain ⟨B, hB⟩ : ∃ B, w.heap.size = B := ⟨_, rfl⟩
  rw [hB] at hO1
  obtain ⟨c1, _⟩ := own_cellB hO1 Ps.length (lastQ _ _) 1 rfl
  have hk1 : (Ps ++ [boxP B 47 #[numF I, txtF I]])[k]? = some (boxP R 24 r.cs) := by rw [List.getElem?_append_left hkn]; exact hk
  have hl1 : (Ps ++ [boxP B 47 #[numF I, txtF I]])[l]? = some (boxP I 4 #[.bool b]) := by rw [List.getElem?_append_left hln]; exact hl
  obtain ⟨c2, _⟩ := own_cellB hO1 k hk1 7 (u := .string r.d) rfl
  have HC := Lib.hid (awayTxt l I 128 r.d b w0 _ _ (hO1.quiet (grown_drew (World.grownBy.refl _ none))) hl1)
  have HS := Lib.hid (fun wx (hO : Grommet.Own w0 wx ((Ps ++ [boxP B 47 #[numF I, txtF I]]).set l (boxP I 4 #[.bool (b && r.fits .data)]))) => (show wx.cell? ⟨R, 7, none⟩ = some (.string r.d) ∧ wx.frozen? ⟨R, 7, none⟩ = false ∧ Grommet.Own w0 (wx.setCell ⟨R, 7, none⟩ (.string ⟨#[]⟩)) ((Ps.set l (boxP I 4 #[.bool (b && r.fits .data)])).set k (boxP R 24 (r.away .data).cs)) by
    have hk2 : ((Ps ++ [boxP B 47 #[numF I, txtF I]]).set l (boxP I 4 #[.bool (b && r.fits .data)]))[k]? = some (boxP R 24 r.cs) := by rw [List.getElem?_set_ne hkl]; exact hk1
    obtain ⟨a1, a2⟩ := own_cellB hO k hk2 7 (u := .string r.d) rfl
    have a3 := own_put hO k hk2 7 (.string ⟨#[]⟩)
    rw [List.set_append_left _ _ hln, List.set_append_left _ _ (by rw [List.length_set]; exact hkn)] at a3
    exact ⟨a1, a2, a3.less⟩))
  unfold numF txtF at *
  clear h hk hl hO1 hk1 hl1 hkn hln _hr
  go_enter Try.func51, Try.ntmps51
  go_upto_region 1 with fail
  go_region_law (go_simp; refine HC.out.mono ?_; rintro e w3 ⟨rfl, hO3⟩; obtain ⟨d1, d2, d3⟩ := HS.out w3 hO3; replace d3 := Lib.hid d3; clear HS hO3)
  all_goals go_wp2
  all_goals go_end0
  all_goals exact ⟨⟨_, rfl⟩, d3.out⟩

set_option maxRecDepth 100000 in
set_option maxHeartbeats 1000000 in
theorem away_at (k l R I : Nat) (r : Rq) (_hr : r.Ok) (b : Bool) (w0 w : World) (Ps : List Pr) (h : Grommet.Own w0 w Ps) (hk : Ps[k]? = some (boxP R 24 r.cs)) (hl : Ps[l]? = some (boxP I 4 #[.bool b])) (hkl : l ≠ k) :
    Calls Try.prog 52 #[.pointer (some ⟨R, 0, none⟩), .agg #[numF I, txtF I]] w fun e w' => (∃ v, e = .returned v) ∧ Grommet.Own w0 w' ((Ps.set l (boxP I 4 #[.bool (b && r.fits .at)])).set k (boxP R 24 (r.away .at).cs)) := by
  have hkn := (List.getElem?_eq_some_iff.1 hk).1
  have hln := (List.getElem?_eq_some_iff.1 hl).1
  have hO1 := h.addBox 47 #[numF I, txtF I]
  obtain ⟨B, hB⟩ : ∃ B, w.heap.size = B := ⟨_, rfl⟩
  rw [hB] at hO1
  obtain ⟨c1, _⟩ := own_cellB hO1 Ps.length (lastQ _ _) 0 rfl
  have hk1 : (Ps ++ [boxP B 47 #[numF I, txtF I]])[k]? = some (boxP R 24 r.cs) := by rw [List.getElem?_append_left hkn]; exact hk
  have hl1 : (Ps ++ [boxP B 47 #[numF I, txtF I]])[l]? = some (boxP I 4 #[.bool b]) := by rw [List.getElem?_append_left hln]; exact hl
  obtain ⟨c2, _⟩ := own_cellB hO1 k hk1 3 (u := .int .u64 (r.at_ : Int)) rfl
  have HC := Lib.hid (awayNum l I r.at_ 18446744073709551615 b w0 _ _ (hO1.quiet (grown_drew (World.grownBy.refl _ none))) hl1)
  have HS := Lib.hid (fun wx (hO : Grommet.Own w0 wx ((Ps ++ [boxP B 47 #[numF I, txtF I]]).set l (boxP I 4 #[.bool (b && r.fits .at)]))) => (show wx.cell? ⟨R, 3, none⟩ = some (.int .u64 (r.at_ : Int)) ∧ wx.frozen? ⟨R, 3, none⟩ = false ∧ Grommet.Own w0 (wx.setCell ⟨R, 3, none⟩ (.int .u64 0)) ((Ps.set l (boxP I 4 #[.bool (b && r.fits .at)])).set k (boxP R 24 (r.away .at).cs)) by
    have hk2 : ((Ps ++ [boxP B 47 #[numF I, txtF I]]).set l (boxP I 4 #[.bool (b && r.fits .at)]))[k]? = some (boxP R 24 r.cs) := by rw [List.getElem?_set_ne hkl]; exact hk1
    obtain ⟨a1, a2⟩ := own_cellB hO k hk2 3 (u := .int .u64 (r.at_ : Int)) rfl
    have a3 := own_put hO k hk2 3 (.int .u64 0)
    rw [List.set_append_left _ _ hln, List.set_append_left _ _ (by rw [List.length_set]; exact hkn)] at a3
    exact ⟨a1, a2, a3.less⟩))
  unfold numF txtF at *
  clear h hk hl hO1 hk1 hl1 hkn hln _hr
  go_enter Try.func52, Try.ntmps52
  go_upto_region 1 with fail
  go_region_law (go_simp; refine HC.out.mono ?_; rintro e w3 ⟨rfl, hO3⟩; obtain ⟨d1, d2, d3⟩ := HS.out w3 hO3; replace d3 := Lib.hid d3; clear HS hO3)
  all_goals go_wp2
  all_goals go_end0
  all_goals exact ⟨⟨_, rfl⟩, d3.out⟩

set_option maxRecDepth 100000 in
set_option maxHeartbeats 1000000 in
theorem away_to (k l R I : Nat) (r : Rq) (_hr : r.Ok) (b : Bool) (w0 w : World) (Ps : List Pr) (h : Grommet.Own w0 w Ps) (hk : Ps[k]? = some (boxP R 24 r.cs)) (hl : Ps[l]? = some (boxP I 4 #[.bool b])) (hkl : l ≠ k) :
    Calls Try.prog 53 #[.pointer (some ⟨R, 0, none⟩), .agg #[numF I, txtF I]] w fun e w' => (∃ v, e = .returned v) ∧ Grommet.Own w0 w' ((Ps.set l (boxP I 4 #[.bool (b && r.fits .to)])).set k (boxP R 24 (r.away .to).cs)) := by
  have hkn := (List.getElem?_eq_some_iff.1 hk).1
  have hln := (List.getElem?_eq_some_iff.1 hl).1
  have hO1 := h.addBox 47 #[numF I, txtF I]
  obtain ⟨B, hB⟩ : ∃ B, w.heap.size = B := ⟨_, rfl⟩
  rw [hB] at hO1
  obtain ⟨c1, _⟩ := own_cellB hO1 Ps.length (lastQ _ _) 1 rfl
  have hk1 : (Ps ++ [boxP B 47 #[numF I, txtF I]])[k]? = some (boxP R 24 r.cs) := by rw [List.getElem?_append_left hkn]; exact hk
  have hl1 : (Ps ++ [boxP B 47 #[numF I, txtF I]])[l]? = some (boxP I 4 #[.bool b]) := by rw [List.getElem?_append_left hln]; exact hl
  obtain ⟨c2, _⟩ := own_cellB hO1 k hk1 6 (u := .string r.t) rfl
  have HC := Lib.hid (awayTxt l I 200 r.t b w0 _ _ (hO1.quiet (grown_drew (World.grownBy.refl _ none))) hl1)
  have HS := Lib.hid (fun wx (hO : Grommet.Own w0 wx ((Ps ++ [boxP B 47 #[numF I, txtF I]]).set l (boxP I 4 #[.bool (b && r.fits .to)]))) => (show wx.cell? ⟨R, 6, none⟩ = some (.string r.t) ∧ wx.frozen? ⟨R, 6, none⟩ = false ∧ Grommet.Own w0 (wx.setCell ⟨R, 6, none⟩ (.string ⟨#[]⟩)) ((Ps.set l (boxP I 4 #[.bool (b && r.fits .to)])).set k (boxP R 24 (r.away .to).cs)) by
    have hk2 : ((Ps ++ [boxP B 47 #[numF I, txtF I]]).set l (boxP I 4 #[.bool (b && r.fits .to)]))[k]? = some (boxP R 24 r.cs) := by rw [List.getElem?_set_ne hkl]; exact hk1
    obtain ⟨a1, a2⟩ := own_cellB hO k hk2 6 (u := .string r.t) rfl
    have a3 := own_put hO k hk2 6 (.string ⟨#[]⟩)
    rw [List.set_append_left _ _ hln, List.set_append_left _ _ (by rw [List.length_set]; exact hkn)] at a3
    exact ⟨a1, a2, a3.less⟩))
  unfold numF txtF at *
  clear h hk hl hO1 hk1 hl1 hkn hln _hr
  go_enter Try.func53, Try.ntmps53
  go_upto_region 1 with fail
  go_region_law (go_simp; refine HC.out.mono ?_; rintro e w3 ⟨rfl, hO3⟩; obtain ⟨d1, d2, d3⟩ := HS.out w3 hO3; replace d3 := Lib.hid d3; clear HS hO3)
  all_goals go_wp2
  all_goals go_end0
  all_goals exact ⟨⟨_, rfl⟩, d3.out⟩

theorem AwayC (f : Fd) (k l R I : Nat) (r : Rq) (hr : r.Ok) (b : Bool) (w0 w : World) (Ps : List Pr) (h : Grommet.Own w0 w Ps) (hk : Ps[k]? = some (boxP R 24 r.cs)) (hl : Ps[l]? = some (boxP I 4 #[.bool b])) (hkl : l ≠ k) :
    Calls Try.prog f.fn #[.pointer (some ⟨R, 0, none⟩), .agg #[numF I, txtF I]] w fun e w' => (∃ v, e = .returned v) ∧ Grommet.Own w0 w' ((Ps.set l (boxP I 4 #[.bool (b && r.fits f)])).set k (boxP R 24 (r.away f).cs)) := by
  cases f
  · exact away_path k l R I r hr b w0 w Ps h hk hl hkl
  · exact away_flags k l R I r hr b w0 w Ps h hk hl hkl
  · exact away_fd k l R I r hr b w0 w Ps h hk hl hkl
  · exact away_size k l R I r hr b w0 w Ps h hk hl hkl
  · exact away_data k l R I r hr b w0 w Ps h hk hl hkl
  · exact away_at k l R I r hr b w0 w Ps h hk hl hkl
  · exact away_to k l R I r hr b w0 w Ps h hk hl hkl
theorem Rq.away_ok {r : Rq} (h : r.Ok) (f : Fd) : (r.away f).Ok := by
  cases f <;> exact ⟨by first | exact h.k, by first | exact h.fl | exact (by decide : (0 : Nat) < 256), by first | exact h.fd | exact (by decide : (0 : Nat) < 18446744073709551616), by first | exact h.at_ | exact (by decide : (0 : Nat) < 18446744073709551616), by first | exact h.sz | exact (by decide : (0 : Nat) < 18446744073709551616)⟩
theorem Rq.away_k (r : Rq) (f : Fd) : (r.away f).k = r.k := by cases f <;> rfl
end Go.Proofs.Ytlphmpimpeekcaa
