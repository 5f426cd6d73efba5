/- Package lock: the free locks, gone through. -/
import Derived.Test.YtclicjdgkcnihaaLocB
import Derived.Test.YtclicjdgkcnihaaMarks
import Derived.RegionIn
namespace Go.Proofs.Ytclicjdgkcnihaa
open Go.RowKit Go.Grommet Go.Shelf
attribute [local go_sem] Oper.semAt_some

theorem free_any (w : World) (X : Nat) : Calls Try.prog 22 #[.pointer (some ⟨X, 0, none⟩)] w fun e w' => e = .returned (.func (.func 27) #[] #[.pointer (some ⟨w.heap.size, 0, none⟩)]) ∧ w' = w.alloc (.cells #[.pointer (some ⟨X, 0, none⟩)] 24) := by
  go_enter Try.func22, Try.ntmps22
  go_wp2
  go_ret
  exact ⟨rfl, rfl⟩

/-- The free ones of the first k locks. -/
def freeL (f : Nat → Int) : Nat → List (Fin 70)
  | 0 => []
  | k + 1 => if h : k < 70 then (if (f k == -1) = true then freeL f k ++ [⟨k, h⟩] else freeL f k) else freeL f k
theorem freeL_yes {f : Nat → Int} {k : Nat} (h : (f k == -1) = true) (hk : k < 70) : freeL f (k + 1) = freeL f k ++ [⟨k, hk⟩] := by
  show (if h : k < 70 then _ else _) = _
  rw [dif_pos hk, if_pos h]
theorem freeL_no {f : Nat → Int} {k : Nat} (h : (f k == -1) = false) (hk : k < 70) : freeL f (k + 1) = freeL f k := by
  show (if h : k < 70 then _ else _) = _
  rw [dif_pos hk, if_neg (by rw [h]; decide)]
theorem freeL_le (f : Nat → Int) : ∀ k, (freeL f k).length ≤ k
  | 0 => Nat.le_refl _
  | k + 1 => by
    have ih := freeL_le f k
    show (if h : k < 70 then _ else _ : List (Fin 70)).length ≤ _
    split
    · split
      · rw [List.length_append, List.length_singleton]; omega
      · omega
    · omega

/-- What a round keeps: these blocks. -/
def KeptT (bt X : Nat) (W W' : World) : Prop := W'.heap[bt]? = W.heap[bt]? ∧ W'.heap[X]? = W.heap[X]?
theorem KeptT.trans {bt X : Nat} {A B C : World} (h : KeptT bt X A B) (k : KeptT bt X B C) : KeptT bt X A C := ⟨k.1.trans h.1, k.2.trans h.2⟩
theorem KeptT.put {bt X : Nat} {w : World} (h1 : bt < w.heap.size) (h2 : X < w.heap.size) (W : World) (l : Nat) (o o' : Obj) (hl : w.heap.size ≤ l) (_ : W.heap[l]? = some o) (_ : o.isCells = false) (_ : o.isWalk = false) : KeptT bt X W (W.putObj l o') :=
  ⟨World.putObj_heap_other (by omega), World.putObj_heap_other (by omega)⟩
def encT (X : Nat) (x : Fin 70) : Array Value := #[.pointer (some ⟨X, 1 + x.1 * 2, none⟩)]

set_option maxRecDepth 100000 in
set_option maxHeartbeats 1000000 in
theorem free_stops (n : Nat) (w : World) (bt X m : Nat) (f : Nat → Int) (hb : w.heap[bt]? = some (.cells #[.pointer (some ⟨X, 0, none⟩)] 24 (0, 0))) (hX : TabIs w X m f) :
    SeqStopsK Fence.wide n Try.prog 27 #[.pointer (some ⟨bt, 0, none⟩)] (encT X) (KeptT bt X) (fun xs => xs = freeL f 70) (fun _ => True) 70 w := by
  intro l J Jx W hW hJ hJx hY h0
  have hbs := (Array.getElem?_eq_some_iff.1 hb).1
  have hXs := (Array.getElem?_eq_some_iff.1 hX).1
  replace hb := (hW.block bt hbs).trans hb
  replace hX : TabIs W X m f := (hW.block X hXs).trans hX
  have HK0 : Hid (KeptT bt X W W) := Lib.hid ⟨rfl, rfl⟩
  have HY := Lib.hid hY
  have HJ := Lib.hid h0
  clear hW hJ hJx hY h0 hbs hXs
  refine callsIn_of_wp Try.func27 rfl trivial ?_ rfl
  simp only [Try.ntmps27, List.size_toArray, List.length_cons, List.length_nil, Nat.reduceAdd, Nat.reduceSub, Array.replicate_succ, Array.replicate_zero, List.push_toArray, List.append_toArray, List.nil_append, List.cons_append]
  have HR := Lib.hid (⟨hb, hX⟩ : W.heap[bt]? = some (.cells #[.pointer (some ⟨X, 0, none⟩)] 24 (0, 0)) ∧ TabIs W X m f)
  clear hb hX
  gi_wp2_with fail
  gi_loopw [4] (fun p wr => ∃ k : Nat, k ≤ 70 ∧ p = .int .i64 (k : Int) ∧ Hid (J (freeL f k) wr ∧ KeptT bt X W wr)) (fun p _ => 70 - (intOf p).toNat)
  case atStart => exact ⟨0, by decide, rfl, Lib.hid ⟨HJ.out, HK0.out⟩⟩
  case round =>
    clear HJ HK0
    obtain ⟨k, hk, rfl, hR⟩ := hrel
    have HJr := Lib.hid hR.out.1
    have HKr := Lib.hid hR.out.2
    have b1 := HKr.out.1.trans HR.out.1
    have b2 : TabIs wr X m f := HKr.out.2.trans HR.out.2
    have e1 : wr.cell? ⟨bt, 0, none⟩ = some (.pointer (some ⟨X, 0, none⟩)) := by simp [World.cell?, b1]
    have k0 : (0 : Int) ≤ (k : Int) := by omega
    clear hR b1
    by_cases hlt : k < 70
    · have hlt' : (k : Int) < 70 := by omega
      have e2 := b2.holder k hlt
      have wk1 : IntKind.i64.wrap ((k : Int) + 1) = (k : Int) + 1 := IntWalk.i64_in _ ⟨by omega, by omega⟩
      have hfl := freeL_le f k
      have Hk := Lib.hid hlt
      obtain ⟨u, hu⟩ : ∃ u, f k = u := ⟨_, rfl⟩
      rw [hu] at e2
      by_cases h1 : u = -1
      · subst h1
        have hN : Hid (freeL f (k + 1) = freeL f k ++ [⟨k, hlt⟩]) := Lib.hid (freeL_yes (by rw [hu]; rfl) hlt)
        have hy0 := HY.out _ ⟨k, hlt⟩ wr HJr.out (by omega)
        unfold encT at hy0
        obtain ⟨fn, tmps, assign, body, hy, hR⟩ := hy0
        clear HR b2 HY hu hfl hk
        gi_wp2
        refine ⟨fun h => (by cases h), ?_⟩
        refine hR.mono ?_
        clear hR hy
        rintro e W' (⟨rfl, hJ', hkp⟩ | ⟨rfl, hJx'⟩)
        · have HJ' := Lib.hid hJ'
          have HK' := Lib.hid (HKr.out.trans hkp)
          clear hJ' hkp
          gi_wp2
          go_roundw
          case rel => exact ⟨k + 1, Hk.out, by go_num, Lib.hid ⟨by rw [hN.out]; exact HJ'.out, HK'.out⟩⟩
          case measure => have := Hk.out; simp [intOf]; omega
        · have HJ' := Lib.hid hJx'
          clear hJx'
          gi_wp2
          refine bodyPost_ret (results_none rfl _ _ _) rfl ?_
          exact ⟨⟨_, rfl⟩, .inr ⟨_, trivial, HJ'.out⟩⟩
      · have hq : (u == -1) = false := by rw [beq_eq_false_iff_ne]; exact h1
        have hN : Hid (freeL f (k + 1) = freeL f k) := Lib.hid (freeL_no (by rw [hu]; exact hq) hlt)
        clear HR b2 HY hu hfl hlt hk
        gi_wp2
        refine ⟨fun _ h => (by cases h), ?_⟩
        gi_wp2
        go_roundw
        case rel => exact ⟨k + 1, Hk.out, by go_num, Lib.hid ⟨by rw [hN.out]; exact HJr.out, HKr.out⟩⟩
        case measure => have := Hk.out; simp [intOf]; omega
    · obtain rfl : k = 70 := by omega
      clear HKr HR hlt hk
      gi_wp2
      go_end0
      exact ⟨⟨_, rfl⟩, .inl ⟨_, rfl, HJr.out⟩⟩
end Go.Proofs.Ytclicjdgkcnihaa
