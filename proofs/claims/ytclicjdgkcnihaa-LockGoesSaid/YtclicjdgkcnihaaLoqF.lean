/- Package lock: what Give and Queue call: the closure, IndexFunc, DeleteFunc, Clone; and two rows compared. -/
import Derived.Test.YtclicjdgkcnihaaLoqB
import Derived.BigQuiet
import Derived.Deep.QuietTactic
namespace Go.Proofs.Ytclicjdgkcnihaa
open Go.RowKit Go.Grommet

def isV (B : Nat) : Value := .func (.func 21) #[] #[.pointer (some ⟨B, 0, none⟩)]
theorem is_any (w : World) (B a x : Nat) (hB : w.heap[B]? = some (.cells #[.int .i64 (a : Int)] 3 (0, 0))) : Calls Try.prog 21 #[.int .i64 (x : Int), .pointer (some ⟨B, 0, none⟩)] w fun e w' => e = .returned (.bool (decide (x = a))) ∧ w' = w := by
  have c0 : w.cell? ⟨B, 0, none⟩ = some (.int .i64 (a : Int)) := by simp [World.cell?, hB]
  have e1 : Hid (((x : Int) == (a : Int)) = decide (x = a)) := Lib.hid (by rw [Bool.eq_iff_iff, beq_iff_eq, decide_eq_true_eq]; omega)
  rw [← e1.out]
  clear hB
  go_enter Try.func21, Try.ntmps21
  go_wp2
  go_ret
  exact ⟨rfl, rfl⟩

/-- The first place of a worker in a list. -/
def idxL (L : List Nat) (a : Nat) : Option Nat := (List.range L.length).find? fun i => decide (L[i]? = some a)
theorem range_find {p : Nat → Bool} {n k : Nat} (hk : k < n) (hp : p k = true) (hl : ∀ i, i < k → p i = false) : (List.range n).find? p = some k := by
  rw [List.find?_range_eq_some]
  exact ⟨hp, List.mem_range.2 hk, fun j hj => by rw [hl j hj]; rfl⟩
theorem idxL_some {L : List Nat} {a k : Nat} (h : L[k]? = some a) (hl : ∀ x ∈ L.take k, x ≠ a) : idxL L a = some k := by
  have hk := (List.getElem?_eq_some_iff.1 h).1
  refine range_find hk (decide_eq_true h) (fun i hi => decide_eq_false (fun e => ?_))
  refine hl a (List.mem_of_getElem? (i := i) ?_) rfl
  rw [List.getElem?_take, if_pos hi]; exact e
theorem idxL_none {L : List Nat} {a : Nat} (hl : ∀ x ∈ L, x ≠ a) : idxL L a = none := by
  unfold idxL
  rw [List.find?_eq_none]
  intro i _
  simp only [decide_eq_true_eq]
  intro e
  exact hl a (List.mem_of_getElem? e) rfl
def idxV (o : Option Nat) : Int := match o with | some k => (k : Int) | none => -1

set_option maxRecDepth 100000 in
set_option maxHeartbeats 1000000 in
theorem IndexFunc_any (w : World) (v : Value) (L : List Nat) (B a : Nat) (h : NumsAt w v L) (hl : L.length ≤ 100000) (hB : w.heap[B]? = some (.cells #[.int .i64 (a : Int)] 3 (0, 0))) :
    Calls Try.prog 26 #[v, isV B] w fun e w' => e = .returned (.int .i64 (idxV (idxL L a))) ∧ w' = w := by
  obtain ⟨ad, cap, rfl, ha, _⟩ := h
  have HI := Lib.hid (fun x => is_any w B a x hB)
  obtain ⟨n, hn⟩ : ∃ n, L.length = n := ⟨_, rfl⟩
  rw [hn] at hl ⊢
  have HA := Lib.hid ha
  have Hn := Lib.hid hn
  unfold isV
  clear ha hn hB
  go_enter Try.func26, Try.ntmps26
  go_wp2_with fail
  go_loopw [8] (fun s wr => ∃ k : Nat, k ≤ n ∧ s = .int .i64 (k : Int) ∧ Hid (∀ x ∈ L.take k, x ≠ a) ∧ wr = w) (fun s _ => n - (intOf s).toNat)
  case atStart => exact ⟨0, Nat.zero_le _, rfl, Lib.hid (by simp), rfl⟩
  case round =>
    obtain ⟨k, hk, rfl, hI, rfl⟩ := hrel
    have k0 : (0 : Int) ≤ (k : Int) := by omega
    by_cases hlt : k < n
    · have hlt' : (k : Int) < (n : Int) := by omega
      obtain ⟨x, hx⟩ : ∃ x, L[k]? = some x := ⟨_, List.getElem?_eq_getElem (by have := Hn.out; omega)⟩
      obtain ⟨g, o, rfl, hc⟩ := NumsAt.get HA.out hx
      have wk : IntKind.i64.wrap ((k : Int) + 1) = (k : Int) + 1 := IntWalk.i64_in _ ⟨by omega, by omega⟩
      have HIx := Lib.hid (HI.out x)
      by_cases hxa : x = a
      · subst hxa
        rw [decide_eq_true rfl] at HIx
        have hin : Hid (idxL L x = some k) := Lib.hid (idxL_some hx hI.out)
        clear hx
        go_wp2_with fail
        refine HIx.out.mono ?_
        rintro e w2 ⟨rfl, rfl⟩
        go_wp2
        go_ret
        exact ⟨by rw [hin.out]; rfl, rfl⟩
      · rw [decide_eq_false hxa] at HIx
        have hI2 : Hid (∀ y ∈ L.take (k + 1), y ≠ a) := Lib.hid (fun y hy => by
          rw [List.take_add_one, hx] at hy
          rcases List.mem_append.1 hy with hy | hy
          · exact hI.out y hy
          · rw [show y = x from by simpa using hy]; exact hxa)
        clear hx hxa
        go_wp2_with fail
        refine HIx.out.mono ?_
        rintro e w2 ⟨rfl, rfl⟩
        go_wp2
        go_roundw
        case rel => exact ⟨k + 1, by omega, by go_num, hI2, by first | rfl | trivial⟩
        case measure => simp [intOf]; omega
    · have hlt' : ¬ (k : Int) < (n : Int) := by omega
      have hin : Hid (idxL L a = none) := Lib.hid (by
        have h := hI.out
        rw [List.take_of_length_le (by have := Hn.out; omega)] at h
        exact idxL_none h)
      go_wp2
      go_ret
      exact ⟨by rw [hin.out]; rfl, rfl⟩

/-- A worker out of a queue. -/
def without (L : List Nat) (a : Nat) : List Nat := L.filter fun x => decide (x ≠ a)
theorem without_none {L : List Nat} {a : Nat} (h : a ∉ L) : without L a = L := by
  unfold without
  rw [List.filter_eq_self]
  intro x hx
  rw [decide_eq_true_eq]
  intro e
  exact h (e ▸ hx)
theorem idxL_mem {L : List Nat} {a : Nat} (h : a ∉ L) : idxL L a = none := idxL_none (fun _ hx e => h (e ▸ hx))

set_option maxRecDepth 100000 in
theorem DeleteFunc_no (w : World) (v : Value) (L : List Nat) (B a : Nat) (h : NumsAt w v L) (hl : L.length ≤ 100000) (hB : w.heap[B]? = some (.cells #[.int .i64 (a : Int)] 3 (0, 0))) (hn : a ∉ L) :
    Calls Try.prog 20 #[v, isV B] w fun e w' => e = .returned v ∧ w' = w := by
  have HI := Lib.hid (IndexFunc_any w v L B a h hl hB)
  rw [idxL_mem hn] at HI
  clear h hB hn
  unfold isV at HI ⊢
  go_enter Try.func20, Try.ntmps20
  go_wp2_with fail
  refine HI.out.mono ?_
  rintro e w1 ⟨rfl, rfl⟩
  unfold idxV
  go_wp2
  go_ret
  exact ⟨rfl, rfl⟩

set_option maxRecDepth 100000 in
set_option maxHeartbeats 1000000 in
/-- What package reference says of two rows: are they the same? -/
theorem SameN_any (w : World) (a b : Value) (A B : List Nat) (ha : NumsAt w a A) (hb : NumsAt w b B) (hA : A.length ≤ 1000000) :
    Calls Try.prog 16 #[a, b] w fun e w' => e = .returned (.bool (decide (A = B))) ∧ w.grownBy w' none := by
  obtain ⟨ad, cap, rfl, ha, _⟩ := ha
  obtain ⟨bd, cbp, rfl, hb, _⟩ := hb
  obtain ⟨V, hV⟩ : ∃ V, Hid (decide (A = B) = V) := ⟨_, Lib.hid rfl⟩
  rw [hV.out]
  obtain ⟨m, hm⟩ : ∃ m, A.length = m := ⟨_, rfl⟩
  obtain ⟨n, hn⟩ : ∃ n, B.length = n := ⟨_, rfl⟩
  rw [hm] at hA ⊢
  rw [hn]
  by_cases c : m = n
  · subst c
    have c' : ((m : Int) != (m : Int)) = false := by simp
    have HA := Lib.hid (fun wx (hg : w.grownBy wx none) => ha.grown hg (by intro _ _ _ e; cases e))
    have HB := Lib.hid (fun wx (hg : w.grownBy wx none) => hb.grown hg (by intro _ _ _ e; cases e))
    have HL := Lib.hid (⟨hm, hn⟩ : A.length = m ∧ B.length = m)
    clear ha hb hm hn
    go_enter Try.func16, Try.ntmps16
    go_wp2_with fail
    go_loopw [5] (fun c wr => ∃ k : Nat, k ≤ m ∧ c = .int .i64 (k : Int) ∧ Hid (A.take k = B.take k) ∧ Hid (w.grownBy wr none)) (fun c _ => m - (intOf c).toNat)
    case atStart => exact ⟨0, Nat.zero_le _, rfl, Lib.hid rfl, Lib.hid (World.grownBy.refl _ _)⟩
    case round =>
      obtain ⟨k, hk, rfl, hT, hg⟩ := hrel
      have k0 : (0 : Int) ≤ (k : Int) := by omega
      by_cases hlt : k < m
      · have hlt' : (k : Int) < (m : Int) := by omega
        obtain ⟨x, hx⟩ : ∃ x, A[k]? = some x := ⟨_, List.getElem?_eq_getElem (by have := HL.out.1; omega)⟩
        obtain ⟨y, hy⟩ : ∃ y, B[k]? = some y := ⟨_, List.getElem?_eq_getElem (by have := HL.out.2; omega)⟩
        obtain ⟨g, o, rfl, c1⟩ := NumsAt.get (HA.out wr hg.out) hx
        obtain ⟨g2, o2, rfl, c2⟩ := NumsAt.get (HB.out wr hg.out) hy
        have wk : IntKind.i64.wrap ((k : Int) + 1) = (k : Int) + 1 := IntWalk.i64_in _ ⟨by omega, by omega⟩
        by_cases hxy : x = y
        · subst hxy
          have HN : Hid (A.take (k + 1) = B.take (k + 1)) := Lib.hid (by rw [List.take_add_one, List.take_add_one, hT.out, hx, hy])
          have q : ((x : Int) != (x : Int)) = false := by simp
          clear hx hy
          go_wp2_with fail
          go_quiet (fail)
          go_wp2
          go_roundw
          case rel => exact ⟨k + 1, by omega, by go_num, HN, Lib.hid (grown_trans hg.out (grown_drewN _ _ _))⟩
          case measure => simp [intOf]; omega
        · have q : ((x : Int) != (y : Int)) = true := by rw [bne_iff_ne]; omega
          have hv : V = false := by
            rw [← hV.out, decide_eq_false]
            rintro rfl
            rw [hx] at hy
            exact hxy (by injection hy)
          subst hv
          clear hx hy hxy
          go_wp2_with fail
          go_quiet (fail)
          go_wp2
          go_ret
          exact ⟨rfl, grown_trans hg.out (grown_drewN _ _ _)⟩
      · have hlt' : ¬ (k : Int) < (m : Int) := by omega
        obtain rfl : k = m := by omega
        have hv : V = true := by
          have h := hT.out
          rw [List.take_of_length_le (by have := HL.out.1; omega), List.take_of_length_le (by have := HL.out.2; omega)] at h
          rw [← hV.out, decide_eq_true h]
        subst hv
        go_wp2
        go_ret
        exact ⟨rfl, hg.out⟩
  · have c' : ((m : Int) != (n : Int)) = true := by simp; omega
    have hv : V = false := by
      rw [← hV.out, decide_eq_false]
      rintro rfl
      omega
    subst hv
    clear ha hb hm hn
    go_enter Try.func16, Try.ntmps16
    go_wp2
    go_ret
    exact ⟨rfl, World.grownBy.refl _ _⟩
end Go.Proofs.Ytclicjdgkcnihaa
