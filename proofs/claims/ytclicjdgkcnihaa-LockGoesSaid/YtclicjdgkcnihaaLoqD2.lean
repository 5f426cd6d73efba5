/- Package lock: DeleteFunc of any row. -/
import Derived.Test.YtclicjdgkcnihaaLoqS
namespace Go.Proofs.Ytclicjdgkcnihaa
open Go.RowKit Go.Grommet

theorem setCells_grown {g : Nat} : ∀ (vs : List Value) (p : Nat) (w : World), w.grownBy (w.setCells g p vs) (some g)
  | [], _, _ => World.grownBy.refl _ _
  | v :: vs, p, w => grown_trans (grown_setCell w ⟨g, p, none⟩ v) (setCells_grown vs (p + 1) _)
theorem setCells_block {g : Nat} {T : TypeId} : ∀ (vs : List Value) (p : Nat) (w : World) (cu : Array Value), w.heap[g]? = some (.cells cu T (0, 0)) → ∃ cu', (w.setCells g p vs).heap[g]? = some (.cells cu' T (0, 0)) ∧ cu'.size = cu.size ∧ ∀ j, j < p → cu'[j]? = cu[j]?
  | [], _, w, cu, h => ⟨cu, h, rfl, fun _ _ => rfl⟩
  | v :: vs, p, w, cu, h => by
    obtain ⟨cu', h1, h2, h3⟩ := setCells_block vs (p + 1) (w.setCell ⟨g, p, none⟩ v) _ (heap_setCell_at h v)
    refine ⟨cu', h1, by rw [h2, Array.size_setIfInBounds], fun j hj => ?_⟩
    rw [h3 j (by omega), Array.getElem?_setIfInBounds_ne (by omega)]
/-- Numbers in a block, from a place on. -/
def RowM (w : World) (g o : Nat) (S : Nat) (M : List Nat) : Prop := ∃ cu : Array Value, w.heap[g]? = some (.cells cu 3 (0, 0)) ∧ cu.size = S ∧ ∀ j x, M[j]? = some x → cu[o + j]? = some (iv x)
theorem RowM.put {w : World} {g o S : Nat} {M : List Nat} (h : RowM w g o S M) (i y : Nat) (hi : o + i < S) : RowM (w.setCell ⟨g, o + i, none⟩ (.int .i64 (y : Int))) g o S (M.set i y) := by
  obtain ⟨cu, h1, h2, h3⟩ := h
  refine ⟨_, heap_setCell_at h1 _, by rw [Array.size_setIfInBounds]; exact h2, fun j x hj => ?_⟩
  by_cases e : i = j
  · subst e
    rw [Array.getElem?_setIfInBounds_self_of_lt (by omega)]
    have hl := (List.getElem?_eq_some_iff.1 hj).1
    rw [List.length_set] at hl
    rw [List.getElem?_set_self hl] at hj
    cases hj
    rfl
  · rw [Array.getElem?_setIfInBounds_ne (by omega)]
    rw [List.getElem?_set_ne e] at hj
    exact h3 j x hj
theorem without_take_snoc {L : List Nat} {a j x : Nat} (h : L[j]? = some x) : without (L.take (j + 1)) a = without (L.take j) a ++ (if x = a then [] else [x]) := by
  rw [List.take_add_one, h]
  unfold without
  rw [List.filter_append]
  congr 1
  by_cases e : x = a
  · rw [if_pos e]; simp [e]
  · rw [if_neg e]; simp [e]
theorem idxL_split {L : List Nat} {a k : Nat} (h : idxL L a = some k) : L[k]? = some a ∧ without (L.take k) a = L.take k := by
  unfold idxL at h
  rw [List.find?_range_eq_some] at h
  obtain ⟨h1, _, h3⟩ := h
  refine ⟨by simpa using h1, without_none (fun hin => ?_)⟩
  obtain ⟨i, hi, e⟩ := List.getElem_of_mem hin
  rw [List.length_take] at hi
  have h4 := h3 i (by omega)
  rw [List.getElem_take] at e
  rw [List.getElem?_eq_getElem (by omega), e] at h4
  simp at h4
theorem slice_head (w : World) (g o n c k : Nat) (h : k ≤ c) : (Instr.slice 30 (.slice (some ⟨g, o, none⟩) n c) none (some (.int .i64 (k : Int))) none).run Try.prog w = .ok (.slice (some ⟨g, o, none⟩) k c) w := by
  have he := elem_of (P := Try.prog) Try.underlying30
  have ht : Try.prog.underlying 30 = some (.slice (Try.prog.elem 30)) := by rw [he]; exact Try.underlying30
  rw [run_slice_h (a := some ⟨g, o, none⟩) (ht := ht) (h0 := by omega) (h2 := by omega), he]
  rw [show (sizeOf 3).run Try.prog w = .ok 1 w from Try.sizeOf3 w]
  simp [Result.andThen, sliced, Addr.add]

set_option maxRecDepth 100000 in
set_option maxHeartbeats 2000000 in
theorem DeleteFunc_any (w : World) (v : Value) (L : List Nat) (B a : Nat) (h : QRow w v L) (hl : L.length ≤ 100000) (hB : w.heap[B]? = some (.cells #[.int .i64 (a : Int)] 3 (0, 0))) (hne : v.ownBlock ≠ some B) :
    Calls Try.prog 20 #[v, isV B] w fun e w' => ∃ ad n c, e = .returned (.slice ad n c) ∧ QRow w' (.slice ad n c) (without L a) ∧ w.grownBy w' v.ownBlock ∧ ∀ g, (Value.slice ad n c).ownBlock = some g → v.ownBlock = some g := by
  have HI := Lib.hid (IndexFunc_any w v L B a h.nums hl hB)
  match hx : idxL L a with
  | none =>
    rw [hx] at HI
    have hn : a ∉ L := by
      intro hin
      obtain ⟨i, hi, e⟩ := List.getElem_of_mem hin
      unfold idxL at hx
      rw [List.find?_eq_none] at hx
      have := hx i (List.mem_range.2 hi)
      rw [List.getElem?_eq_getElem hi, e] at this
      simp at this
    obtain ⟨ad, cap, hv, _⟩ := h.nums
    obtain ⟨n, hln⟩ : ∃ n, L.length = n := ⟨_, rfl⟩
    rw [hln] at hv
    have HR := Lib.hid (show QRow w (.slice ad n cap) (without L a) from by rw [without_none hn, ← hv]; exact h)
    subst hv
    clear h hB hn hx hln hl hne
    unfold isV at HI ⊢
    go_enter Try.func20, Try.ntmps20
    go_wp2_with fail
    refine HI.out.mono ?_
    rintro e w1 ⟨rfl, rfl⟩
    unfold idxV
    go_wp2
    go_ret
    exact ⟨_, _, _, rfl, HR.out, World.grownBy.refl _ _, fun _ h => h⟩
  | some i0 =>
    rw [hx] at HI
    obtain ⟨hx1, hx2⟩ := idxL_split hx
    have hi0 := (List.getElem?_eq_some_iff.1 hx1).1
    rcases h with ⟨_, rfl⟩ | ⟨g, o, cap, cur, rfl, hg, hlc, hc, hcell⟩
    · simp at hi0
    obtain ⟨n, hn⟩ : ∃ n, L.length = n := ⟨_, rfl⟩
    have Hn := Lib.hid hn
    rw [hn] at hl hlc hi0 HI ⊢
    have hgB : g ≠ B := fun e => hne (by rw [e]; rfl)
    have HM0 : Hid (RowM w g o cur.size L) := Lib.hid ⟨cur, hg, rfl, hcell⟩
    have HS : Hid (o + cap ≤ cur.size) := Lib.hid hc
    generalize cur.size = S at HM0 HS
    have HB := Lib.hid (fun wx (hgx : w.grownBy wx (some g)) => (hgx.block B (Array.getElem?_eq_some_iff.1 hB).1 (by simpa using fun e => hgB e.symm)).trans hB)
    have Hx := Lib.hid (And.intro hx1 hx2)
    have h00 : (0 : Int) ≤ (i0 : Int) := by omega
    have hi9 : ¬ ((i0 : Int) = -1) := by omega
    have hi8 : ((i0 : Int) == -1) = false := by rw [beq_eq_false_iff_ne]; exact hi9
    have wi0 : IntKind.i64.wrap ((i0 : Int) + 1) = ((i0 + 1 : Nat) : Int) := by rw [IntWalk.i64_in _ ⟨by omega, by omega⟩]; omega
    obtain ⟨i1, hi1⟩ : ∃ i1, i0 + 1 = i1 := ⟨_, rfl⟩
    rw [hi1] at wi0
    have ei1 : (i0 : Int) + 1 = (i1 : Int) := by omega
    have wi1 : IntKind.i64.wrap (i1 : Int) = (i1 : Int) := IntWalk.i64_in _ ⟨by omega, by omega⟩
    have hin : i1 ≤ n := by omega
    clear hg hcell hne hB hgB hx1 hx2 hx hn hc
    unfold isV at HI ⊢
    go_enter Try.func20, Try.ntmps20
    go_wp2_with fail
    refine HI.out.mono ?_
    rintro e w1 ⟨rfl, rfl⟩
    unfold idxV
    clear HI
    go_wp2_with fail
    go_loopw [5, 6] (fun p r wr => ∃ (i j : Nat) (M : List Nat), p = .int .i64 (i : Int) ∧ r = .int .i64 (j : Int) ∧ j ≤ n ∧ i < j ∧ Hid (M.length = n ∧ i = (without (L.take j) a).length ∧ M.take i = without (L.take j) a ∧ M.drop j = L.drop j) ∧ Hid (RowM wr g o S M) ∧ Hid (w1.grownBy wr (some g))) (fun _ r _ => n - (intOf r).toNat)
    case atStart =>
      refine ⟨i0, i1, L, rfl, rfl, hin, by omega, Lib.hid ⟨Hn.out, ?_, ?_, rfl⟩, HM0, Lib.hid (World.grownBy.refl _ _)⟩
      · rw [← hi1, without_take_snoc Hx.out.1, if_pos rfl, List.append_nil, Hx.out.2, List.length_take]; have := Hn.out; omega
      · rw [← hi1, without_take_snoc Hx.out.1, if_pos rfl, List.append_nil, Hx.out.2]
    case round =>
      clear HM0 hi0 h00 hi9 hi8 wi0 hi1 ei1 wi1 hin
      obtain ⟨i, j, M, rfl, rfl, hj, hij, HM, HR, HG⟩ := hrel
      have j0 : (0 : Int) ≤ (j : Int) := by omega
      have i0' : (0 : Int) ≤ (i : Int) := by omega
      by_cases hlt : j < n
      · have hlt' : (j : Int) < (n : Int) := by omega
        have hin' : (i : Int) < (n : Int) := by omega
        have wj : IntKind.i64.wrap ((j : Int) + 1) = (j : Int) + 1 := IntWalk.i64_in _ ⟨by omega, by omega⟩
        have wi : IntKind.i64.wrap ((i : Int) + 1) = (i : Int) + 1 := IntWalk.i64_in _ ⟨by omega, by omega⟩
        obtain ⟨x, hx⟩ : ∃ x, L[j]? = some x := ⟨_, List.getElem?_eq_getElem (by have := Hn.out; omega)⟩
        have hMx : M[j]? = some x := by
          have h1 := congrArg (fun l : List Nat => l[0]?) HM.out.2.2.2
          simp only [List.getElem?_drop, Nat.add_zero] at h1
          rw [h1]; exact hx
        obtain ⟨cu, hcu, hcs, hcx⟩ := HR.out
        have hc1 : wr.cell? ⟨g, o + j, none⟩ = some (.int .i64 (x : Int)) := by
          have := hcx j x hMx
          simp [World.cell?, hcu, this, iv]
        have HC := Lib.hid (is_any wr B a x (HB.out wr HG.out))
        have hz : wr.frozen? ⟨g, o + i, none⟩ = false := by simp [World.frozen?, hcu]
        have hci : ∃ u, wr.cell? ⟨g, o + i, none⟩ = some u := by
          have : o + i < cu.size := by have := HS.out; omega
          exact ⟨_, by simp only [World.cell?, hcu]; exact Array.getElem?_eq_getElem this⟩
        obtain ⟨u0, hci⟩ := hci
        have Hst := Lib.hid (without_take_snoc (a := a) hx)
        have Hlt := Lib.hid (And.intro hlt hij)
        by_cases hxa : x = a
        · rw [decide_eq_true hxa] at HC
          have HM2 : Hid (M.length = n ∧ i = (without (L.take (j + 1)) a).length ∧ M.take i = without (L.take (j + 1)) a ∧ M.drop (j + 1) = L.drop (j + 1)) := Lib.hid ⟨HM.out.1, by rw [Hst.out, if_pos hxa, List.append_nil]; exact HM.out.2.1, by rw [Hst.out, if_pos hxa, List.append_nil]; exact HM.out.2.2.1, by
            have := congrArg (List.drop 1) HM.out.2.2.2
            rwa [List.drop_drop, List.drop_drop] at this⟩
          clear hx hMx hcu hcs hcx hxa hci hz
          go_wp2_with fail
          refine HC.out.mono ?_
          rintro e w3 ⟨rfl, rfl⟩
          go_wp2
          go_roundw
          case rel => exact ⟨i, j + 1, M, rfl, by go_num, by have := Hlt.out; omega, by omega, HM2, HR, HG⟩
          case measure => have := Hlt.out; simp [intOf]; omega
        · rw [decide_eq_false hxa] at HC
          have HR2 := Lib.hid (RowM.put HR.out i x (by have := HS.out; omega))
          have HG2 := Lib.hid (grown_trans HG.out (grown_setCell wr ⟨g, o + i, none⟩ (.int .i64 (x : Int))))
          have HM2 : Hid ((M.set i x).length = n ∧ i + 1 = (without (L.take (j + 1)) a).length ∧ (M.set i x).take (i + 1) = without (L.take (j + 1)) a ∧ (M.set i x).drop (j + 1) = L.drop (j + 1)) := Lib.hid ⟨by rw [List.length_set]; exact HM.out.1, by rw [Hst.out, if_neg hxa, List.length_append, List.length_singleton, ← HM.out.2.1], by
            rw [Hst.out, if_neg hxa, ← HM.out.2.2.1, List.take_add_one, List.getElem?_set_self (by rw [HM.out.1]; omega), List.take_set_of_le (Nat.le_refl i)]
            rfl, by
            have := congrArg (List.drop 1) HM.out.2.2.2
            rw [List.drop_drop, List.drop_drop] at this
            rw [List.drop_set_of_lt (by omega)]
            exact this⟩
          clear hx hMx hcu hcs hcx hxa
          go_wp2_with fail
          refine HC.out.mono ?_
          rintro e w3 ⟨rfl, rfl⟩
          go_wp2
          go_roundw
          case rel => exact ⟨i + 1, j + 1, M.set i x, by go_num, by go_num, by have := Hlt.out; omega, by omega, HM2, HR2, HG2⟩
          case measure => have := Hlt.out; simp [intOf]; omega
      · have hlt' : ¬ (j : Int) < (n : Int) := by omega
        obtain rfl : j = n := by omega
        obtain ⟨F, hF⟩ : ∃ F, o + i = F := ⟨_, rfl⟩
        obtain ⟨d, hd⟩ : ∃ d, j - i = d := ⟨_, rfl⟩
        obtain ⟨c2, hc2⟩ : ∃ c2, cap - i = c2 := ⟨_, rfl⟩
        have hs1 : ∀ wx, (Instr.slice 30 (.slice (some ⟨g, o, none⟩) j cap) (some (.int .i64 (i : Int))) none none).run Try.prog wx = .ok (.slice (some ⟨g, F, none⟩) d c2) wx := fun wx => by
          rw [← hF, ← hd, ← hc2]
          exact slice_lit (P := Try.prog) 30 3 Try.underlying30 (fun w => Try.sizeOf3 w) g o j cap i (by omega) (by omega) wx
        have hs2 : ∀ wx, (Instr.slice 30 (.slice (some ⟨g, o, none⟩) j cap) none (some (.int .i64 (i : Int))) none).run Try.prog wx = .ok (.slice (some ⟨g, o, none⟩) i cap) wx := fun wx => slice_head wx g o j cap i (by omega)
        obtain ⟨cu, hcu, hcs, hcx⟩ := HR.out
        have hcl := fun ty => Lib.run_clear_slice (P := Try.prog) wr 30 3 ty (.int .i64 0) Try.underlying30 (fun w => Try.zeroValue3 w) rfl rfl g F d c2 (by omega)
          (fun t ht => by
            have : F + t < cu.size := by have := HS.out; omega
            simp [World.cell?, hcu, this]) (fun t ht => by simp [World.frozen?, hcu])
        obtain ⟨W9, hW9⟩ : ∃ W9, wr.setCells g F (List.replicate d (.int .i64 0)) = W9 := ⟨_, rfl⟩
        have hE : QRow W9 (.slice (some ⟨g, o, none⟩) i cap) (without L a) ∧ w1.grownBy W9 (some g) := by
          obtain ⟨cu', k1, k2, k3⟩ := setCells_block (List.replicate d (.int .i64 0)) F wr cu hcu
          rw [hW9] at k1
          have hwl : without (L.take j) a = without L a := by rw [List.take_of_length_le (by rw [Hn.out]; exact Nat.le_refl _)]
          have hil : i = (without L a).length := by rw [← hwl]; exact HM.out.2.1
          refine ⟨.inr ⟨g, o, cap, cu', by rw [← hil], k1, by rw [← hil]; omega, by rw [k2, hcs]; exact HS.out, fun t x ht => ?_⟩, by rw [← hW9]; exact grown_trans HG.out (setCells_grown _ _ _)⟩
          have htl := (List.getElem?_eq_some_iff.1 ht).1
          rw [k3 (o + t) (by omega)]
          refine hcx t x ?_
          rw [← hwl, ← HM.out.2.2.1, List.getElem?_take, if_pos (by omega)] at ht
          exact ht
        rw [hW9] at hcl
        have HE := Lib.hid hE
        clear hcu hcs hcx hE hW9 hF hd hc2 hlt
        go_wp2
        go_ret
        exact ⟨_, _, _, rfl, HE.out.1, HE.out.2, fun _ h => h⟩
end Go.Proofs.Ytclicjdgkcnihaa
