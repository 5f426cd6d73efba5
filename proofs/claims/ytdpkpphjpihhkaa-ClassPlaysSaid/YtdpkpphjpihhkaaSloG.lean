/- Package slot: Wipe, walked. -/
import Derived.Test.YtdpkpphjpihhkaaSloF
namespace Go.Proofs.Ytdpkpphjpihhkaa
open Go.RowKit Go.Grommet

theorem descV_in (i k : Int) : -1 ≤ descV i k ∧ descV i k ≤ 1000 := by unfold descV; split <;> omega
def WRow (w0 : World) (Ps : List Pr) (g n : Nat) (ad : Option Addr) (cap : Nat) (bs : List Nat) (S : List (Int × Nat)) (w : World) : Prop :=
  Own w0 w (Ps ++ rowP 105 1 (.slice ad n cap) n (bs.map fv) :: cls g bs S)
theorem WRow.row {w0 w : World} {Ps : List Pr} {g n cap : Nat} {ad : Option Addr} {bs : List Nat} {S : List (Int × Nat)} (h : WRow w0 Ps g n ad cap bs S w) : w.ownsRow 0 105 1 (.slice ad n cap) n (bs.map fv) := Own.row h Ps.length (get_mid _ _ _)
theorem WRow.quiet {w0 w w' : World} {Ps : List Pr} {g n cap : Nat} {ad : Option Addr} {bs : List Nat} {S : List (Int × Nat)} (h : WRow w0 Ps g n ad cap bs S w) (hg : w.grownBy w' none) : WRow w0 Ps g n ad cap bs S w' := Own.quiet h hg
/-- A row and closures that stand behind it, not yet told in it. -/
def WRowX (w0 : World) (Ps : List Pr) (g n : Nat) (ad : Option Addr) (cap : Nat) (bs : List Nat) (cs : List Nat) (S : List (Int × Nat)) (w : World) : Prop :=
  Own w0 w (Ps ++ rowP 105 1 (.slice ad n cap) n (bs.map fv) :: cls g cs S)
theorem WRowX.row {w0 w : World} {Ps : List Pr} {g n cap : Nat} {ad : Option Addr} {bs cs : List Nat} {S : List (Int × Nat)} (h : WRowX w0 Ps g n ad cap bs cs S w) : w.ownsRow 0 105 1 (.slice ad n cap) n (bs.map fv) := Own.row h Ps.length (get_mid _ _ _)
theorem WRowX.quiet {w0 w w' : World} {Ps : List Pr} {g n cap : Nat} {ad : Option Addr} {bs cs : List Nat} {S : List (Int × Nat)} (h : WRowX w0 Ps g n ad cap bs cs S w) (hg : w.grownBy w' none) : WRowX w0 Ps g n ad cap bs cs S w' := Own.quiet h hg
theorem WRow.x {w0 w : World} {Ps : List Pr} {g n cap : Nat} {ad : Option Addr} {bs : List Nat} {S : List (Int × Nat)} (h : WRow w0 Ps g n ad cap bs S w) : WRowX w0 Ps g n ad cap bs bs S w := h
theorem setX {w0 w : World} {Ps : List Pr} {g n cap : Nat} {ad : Option Addr} {bs cs : List Nat} {S : List (Int × Nat)} (h : WRowX w0 Ps g n ad cap bs cs S w) (hl : cs.length = S.length) (a : Int) :
    Calls Try.prog 49 #[.pointer (some ⟨g, 0, none⟩), .int .i64 a, .int .u64 0] w fun e w' => ∃ b, e = .returned (.func (.func 74) #[] #[.pointer (some ⟨b, 0, none⟩), .pointer (some ⟨b + 1, 0, none⟩), .pointer (some ⟨b + 2, 0, none⟩)]) ∧ WRowX w0 Ps g n ad cap bs (cs ++ [b]) (S ++ [(a, 0)]) w' := by
  refine (setH' g a 0 w0 w _ h).mono ?_
  rintro e w' ⟨b, rfl, hO⟩
  refine ⟨b, rfl, ?_⟩
  unfold WRowX
  rw [cls_snoc g b (a, 0) cs S hl]
  rw [List.append_assoc] at hO
  exact hO
theorem WRowX.app {w0 w w' : World} {Ps : List Pr} {g n cap n' cap' : Nat} {ad ad' : Option Addr} {bs cs : List Nat} {S : List (Int × Nat)} (h : WRowX w0 Ps g n ad cap bs cs S w)
    (hr : w'.ownsRow 0 105 1 (.slice ad' n' cap') n' (cs.map fv)) (hg : w.grownBy w' (Value.slice ad n cap).ownBlock) (hn : ∀ g, (Value.slice ad' n' cap').ownBlock = some g → (Value.slice ad n cap).ownBlock = some g ∨ w.heap.size ≤ g) : WRow w0 Ps g n' ad' cap' cs S w' := by
  have := Own.append h Ps.length (get_mid _ _ _) hr hg hn
  rw [set_mid] at this
  exact this

set_option maxRecDepth 100000 in
set_option maxHeartbeats 4000000 in
theorem WipeH (k g : Nat) (xs : List Nat) (L : List (Nat × Nat)) (i at_ : Int) (w0 w : World) (Ps : List Pr) (h : Own w0 w Ps) (hk : Ps[k]? = some (viewP g xs L)) (hat : sessionV i = at_) (ha : 0 ≤ at_ ∧ at_ + 64 ≤ (xs.length : Int)) :
    Calls Try.prog 43 #[.pointer (some ⟨g, 0, none⟩), .int .i64 i] w fun e w' => e = .returned (.int .i64 (allE xs L (wipeS i) : Int)) ∧ Own w0 w' (Ps.set k (viewP g xs (allL xs L (wipeS i)))) := by
  have hkl := (List.getElem?_eq_some_iff.1 hk).1
  have HH := Lib.hid (hasH k g xs L i at_ w0 w Ps h hk hat ha)
  have HS := Lib.hid (fun k wx => SlotAt_any i k wx)
  have HD := Lib.hid (fun k wx => DescriptorAt_any i k wx)
  have HOrd := Lib.hid (fun (bs : List Nat) ad cap wx (hl : bs.length = 12) (hO : WRow w0 Ps g 12 ad cap bs (wipeS i) wx) =>
    have hS : (wipeS i).length = 12 := by unfold wipeS; rw [List.length_append, slotsS_length, descS_length]
    inOrderH k Ps.length g xs L (wipeS i) bs ad 12 cap w0 wx _ hO (by rw [List.getElem?_append_left hkl]; exact hk) (get_mid _ _ _) (by omega) hl hS (by omega)
      (fun j hj => ⟨Ps.length + (j + 1), by omega, by
        rw [List.getElem?_append_right (by omega), show Ps.length + (j + 1) - Ps.length = j + 1 from by omega]
        exact cls_get g bs (wipeS i) j (by omega) (by omega)⟩)
      (fun j hj => by
        have hj' : j = 0 ∨ j = 1 ∨ j = 2 ∨ j = 3 ∨ j = 4 ∨ j = 5 ∨ j = 6 ∨ j = 7 ∨ j = 8 ∨ j = 9 ∨ j = 10 ∨ j = 11 := by omega
        rcases hj' with rfl | rfl | rfl | rfl | rfl | rfl | rfl | rfl | rfl | rfl | rfl | rfl <;> (show (0 : Nat) < _; omega)))
  have Hset := Lib.hid (show ∀ Rs M, (Ps ++ Rs).set k (viewP g xs M) = Ps.set k (viewP g xs M) ++ Rs from fun Rs M => List.set_append_left _ _ hkl)
  have HL1 := Lib.hid (fun k => slotsS_length i k)
  have HL2 := Lib.hid (fun k => descS_length i k)
  have HDin := Lib.hid (fun k => descV_in i k)
  have HSs := Lib.hid (fun (k : Nat) => show slotsS i (k + 1) = slotsS i k ++ [(slotV i (k : Int), 0)] from rfl)
  have HDs := Lib.hid (fun (k : Nat) => show descS i (k + 1) = descS i k ++ [(descV i (k : Int), 0)] ++ [(descV i (k : Int) + 1, 0)] from rfl)
  have HW := Lib.hid (show slotsS i 4 ++ descS i 4 = wipeS i from rfl)
  have HS0 := Lib.hid (show slotsS i 0 = [] from rfl)
  have HD0 := Lib.hid (show descS i 0 = [] from rfl)
  generalize wipeS i = WS at *
  generalize allE xs L WS = EE at *
  generalize allL xs L WS = LL at *
  clear h hk hat ha
  go_enter Try.func43, Try.ntmps43
  go_wp2_with fail
  refine HH.out.mono ?_
  rintro e w1 ⟨rfl, hO1⟩
  have hR0 : Hid (WRow w0 Ps g 0 none 0 [] (slotsS i 0) w1) := Lib.hid (by
    rw [HS0.out]
    exact Own.addRow hO1 (World.ownsRow_nil _ _ _ _) (World.grownBy.refl _ none))
  clear hO1 HH
  go_wp2_with fail
  go_loopw [6, 16] (fun s c wr => ∃ (j : Nat) (ad : Option Addr) (cap : Nat) (bs : List Nat), j ≤ 4 ∧ c = .int .i64 (j : Int) ∧ s = .slice ad j cap ∧ Hid (bs.length = j ∧ WRow w0 Ps g j ad cap bs (slotsS i j) wr)) (fun _ c _ => 4 - (intOf c).toNat)
  case atStart => exact ⟨0, none, 0, [], by omega, rfl, rfl, Lib.hid ⟨rfl, hR0.out⟩⟩
  case round =>
    clear hR0
    obtain ⟨j, ad, cap, bs, hj, rfl, rfl, hO⟩ := hrel
    have j0 : (0 : Int) ≤ (j : Int) := by omega
    by_cases hlt : j < 4
    · have hlt' : (j : Int) < 4 := by omega
      go_wp2_with fail
      refine (HS.out _ _).mono ?_
      rintro e w2 ⟨rfl, hg⟩
      have hX := Lib.hid (setX (hO.out.2.quiet hg).x (by rw [hO.out.1, HL1.out]) (slotV i (j : Int)))
      have hsn := Lib.hid (HSs.out j)
      generalize slotV i (j : Int) = sv at *
      clear hg
      go_wp2_with fail
      refine hX.out.mono ?_
      rintro e w3 ⟨b, rfl, hO3⟩
      replace hO3 := Lib.hid hO3
      clear hX
      go_wp2_with (at_builtin; refine appF rfl _ _ rfl _ j bs rfl (World.ownsRow.alloc hO3.out.row _) ⟨w3.heap.size, 0, none⟩ 1 1 [b] rfl rfl (at_of_row (heap_alloc_new w3 _)) ?a2 ?_)
      case a2 => omega
      intro ad2 cap2 w4 hr4 hg4 hn4
      have hO4 := Lib.hid (WRowX.app (hO3.out.quiet (World.grownBy_alloc w3 _ none)) (by rw [List.map_append]; exact hr4) hg4 (fun y e => (hn4 y e).imp id (fun h => by rw [World.size_alloc]; exact h)))
      clear hr4 hg4 hn4 hO3
      go_wp2
      go_roundw
      case rel => exact ⟨j + 1, ad2, cap2, bs ++ [b], by omega, by go_num, rfl, Lib.hid ⟨by simp [hO.out.1], by rw [hsn.out]; exact hO4.out⟩⟩
      case measure => simp [intOf]; omega
    · have hlt' : ¬ (j : Int) < 4 := by omega
      have HJ : Hid (j = 4) := Lib.hid (by omega)
      have hR0 : Hid (bs.length = 4 + 2 * 0 ∧ WRow w0 Ps g (4 + 2 * 0) ad cap bs (slotsS i 4 ++ descS i 0) wr) := Lib.hid ⟨hO.out.1.trans HJ.out, by
        have := hO.out.2
        rw [HD0.out, List.append_nil]
        rw [HJ.out] at this
        exact this⟩
      clear hlt hj j0
      clear hO
      go_wp2_with fail
      go_loopw [6, 28] (fun s c wr => ∃ (j : Nat) (ad : Option Addr) (cap : Nat) (bs : List Nat), j ≤ 4 ∧ c = .int .i64 (j : Int) ∧ s = .slice ad (4 + 2 * j) cap ∧ Hid (bs.length = 4 + 2 * j ∧ WRow w0 Ps g (4 + 2 * j) ad cap bs (slotsS i 4 ++ descS i j) wr)) (fun _ c _ => 4 - (intOf c).toNat)
      case atStart => exact ⟨0, ad, cap, bs, by omega, rfl, by rw [HJ.out], hR0⟩
      case round =>
        clear hR0
        obtain ⟨j, ad, cap, bs, hj, rfl, rfl, hO⟩ := hrel
        have j0 : (0 : Int) ≤ (j : Int) := by omega
        by_cases hlt : j < 4
        · have hlt' : (j : Int) < 4 := by omega
          have hO9 := Lib.hid hO.out.1
          obtain ⟨n, hn⟩ : ∃ n, Hid (n = 4 + 2 * j) := ⟨_, Lib.hid rfl⟩
          have hl0 : Hid (bs.length = (slotsS i 4 ++ descS i j).length) := Lib.hid (by rw [List.length_append, HL1.out, HL2.out, hO.out.1])
          rw [← hn.out] at hO ⊢
          obtain ⟨y1, y2⟩ := HDin.out (j : Int)
          go_wp2_with fail
          refine (HD.out _ _).mono ?_
          rintro e w2 ⟨rfl, hg⟩
          have hX := Lib.hid (setX (hO.out.2.quiet hg).x hl0.out (descV i (j : Int)))
          have hsn := Lib.hid (HDs.out j)
          generalize descV i (j : Int) = dv at *
          have wdv : IntKind.i64.wrap (dv + 1) = dv + 1 := IntWalk.i64_in _ ⟨by omega, by omega⟩
          clear hg y1 y2
          go_wp2_with fail
          refine hX.out.mono ?_
          rintro e w3 ⟨b, rfl, hO3⟩
          have hX2 := Lib.hid (setX hO3 (by rw [List.length_append, List.length_append, hl0.out]; rfl) (dv + 1))
          clear hO3 hX
          go_wp2_with fail
          refine hX2.out.mono ?_
          rintro e w4 ⟨b2, rfl, hO4⟩
          replace hO4 := Lib.hid hO4
          clear hX2
          go_wp2_with (at_builtin; refine appF rfl _ _ rfl _ n bs rfl (World.ownsRow.alloc hO4.out.row _) ⟨w4.heap.size, 0, none⟩ 2 2 [b, b2] rfl rfl (at_of_row (heap_alloc_new w4 _)) ?a2 ?_)
          case a2 => have := hn.out; omega
          intro ad2 cap2 w5 hr5 hg5 hn5
          have hO5 := Lib.hid (WRowX.app (hO4.out.quiet (World.grownBy_alloc w4 _ none)) (by rw [List.append_assoc, List.map_append]; exact hr5) hg5 (fun y e => (hn5 y e).imp id (fun h => by rw [World.size_alloc]; exact h)))
          clear hr5 hg5 hn5 hO4
          go_wp2
          go_roundw
          case rel => exact ⟨j + 1, ad2, cap2, bs ++ [b] ++ [b2], by omega, by go_num, by rw [hn.out]; rfl, Lib.hid ⟨by simp [hO9.out]; omega, by
            rw [hsn.out, show 4 + 2 * (j + 1) = n + 2 from by have := hn.out; omega, ← List.append_assoc, ← List.append_assoc]; exact hO5.out⟩⟩
          case measure => simp [intOf]; omega
        · obtain rfl : j = 4 := by omega
          have hF := Lib.hid (HOrd.out bs ad cap wr hO.out.1 (by rw [← HW.out]; exact hO.out.2))
          clear hO hlt hj j0
          go_wp2_with fail
          refine hF.out.mono ?_
          rintro e w6 ⟨rfl, hO6⟩
          have hO7 : Hid (Own w0 w6 (Ps.set k (viewP g xs LL))) := Lib.hid (by rw [Hset.out] at hO6; exact hO6.less)
          clear hO6
          go_wp2
          go_ret
          exact ⟨rfl, hO7.out⟩
end Go.Proofs.Ytdpkpphjpihhkaa
