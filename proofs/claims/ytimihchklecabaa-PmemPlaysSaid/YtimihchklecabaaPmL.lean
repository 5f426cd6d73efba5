/- Package pmem: a new device; a device among a call's own things. -/
import Derived.Test.YtimihchklecabaaPmK
import Derived.Test.YtimihchklecabaaHeap
namespace Go.Proofs.Ytimihchklecabaa
open Go.RowKit Go.Grommet Go.Shelf

theorem flat_zero (n : Nat) : (madeCells #[Value.int .u64 0, .int .u64 0, .bool false, .bool false, .bool false, .int .u64 0] (n * 6)).toList = flat (List.replicate n PW.nought) := by
  apply List.ext_getElem?
  intro i
  by_cases hi : i < n * 6
  · have hw : (List.replicate n PW.nought)[i / 6]? = some PW.nought := by rw [List.getElem?_replicate, if_pos (by omega)]
    have h1 := flat_get (List.replicate n PW.nought) (i / 6) (i % 6) PW.nought hw (Nat.mod_lt _ (by decide))
    rw [show i / 6 * 6 + i % 6 = i from by omega] at h1
    rw [h1, Array.getElem?_toList]
    have hm : i % 6 = 0 ∨ i % 6 = 1 ∨ i % 6 = 2 ∨ i % 6 = 3 ∨ i % 6 = 4 ∨ i % 6 = 5 := by omega
    simp only [madeCells, Array.getElem?_map, Array.getElem?_range, hi, if_true, Option.map_some]
    rcases hm with e | e | e | e | e | e <;> simp [e, PW.vs, PW.nought]
  · rw [List.getElem?_eq_none (by rw [Array.length_toList, size_madeCells]; omega), List.getElem?_eq_none (by rw [flat_len, List.length_replicate]; omega)]

/-- A device of these words, in blocks of its own. -/
def devP (d : Nat) (ws : List PW) : Pr where
  holds w F := ∃ g, DevIs w d g ws ∧ F d ∧ F g ∧ ∀ i, F i → i < w.heap.size
  turn := fun ⟨g, h, h1, h2, h3⟩ ht hn => ⟨g, ⟨ht.obj h.dev (hn _ h1), ht.obj h.row (hn _ h2), h.ne, h.fits, h.small⟩, h1, h2, fun i hi => Nat.lt_of_lt_of_le (h3 i hi) ht.size⟩
  old := fun ⟨_, _, _, _, h3⟩ => h3

/-- A call that turns a device. -/
theorem dev_does {w0 w : World} {Ps : List Pr} {d k : Nat} {ws : List PW} (h : Grommet.Own w0 w Ps) (hk : Ps[k]? = some (devP d ws)) :
    ∃ g, DevIs w d g ws ∧ w0.heap.size ≤ g ∧ (∀ w' ws', DevIs w' d g ws' → w.grownBy w' (some g) → Grommet.Own w0 w' (Ps.set k (devP d ws'))) ∧
      (∀ m P, Ps[m]? = some P → m ≠ k → ∃ F, P.holds w F ∧ ¬ F g) := by
  obtain ⟨Fs, h1, h2, h3, h4⟩ := h
  have hkl := (List.getElem?_eq_some_iff.1 hk).1
  obtain ⟨g, hD, hd, hg, hF⟩ := h1 k _ hk
  have hOwn : Grommet.Own w0 w Ps := ⟨Fs, h1, h2, h3, h4⟩
  refine ⟨g, hD, h3 k hkl g hg, ?_, ?_⟩
  · intro w' ws' hD' hgr
    have hlt : ∀ i, Fs k i → i < w'.heap.size := fun i hi => Nat.lt_of_lt_of_le (hF i hi) hgr.size
    refine ⟨Fs, ?_, ?_, ?_, grown_turn h4 (Turn.of hgr (fun i e => by cases e; exact hg)) (h3 k hkl)⟩
    · intro j P hP
      by_cases e : j = k
      · subst e
        rw [List.getElem?_set_self hkl] at hP
        cases hP
        exact ⟨g, hD', hd, hg, hlt⟩
      · rw [List.getElem?_set_ne (fun e' => e e'.symm)] at hP
        exact P.turn (h1 j P hP) (Turn.of (F := fun i => i = g) hgr (fun i e => by cases e; rfl)) (fun i hi e' => h2 j k (List.getElem?_eq_some_iff.1 hP).1 hkl e i hi (by rw [e']; exact hg))
    · intro j l hj hl hne; rw [List.length_set] at hj hl; exact h2 j l hj hl hne
    · intro j hj; rw [List.length_set] at hj; exact h3 j hj
  · intro m P hP hmk
    exact ⟨Fs m, h1 m P hP, fun e => h2 m k (List.getElem?_eq_some_iff.1 hP).1 hkl hmk g e hg⟩

set_option maxHeartbeats 1000000 in
theorem NewH (n : Nat) (w0 w : World) (Ps : List Pr) (h : Grommet.Own w0 w Ps) (h8 : 8 ≤ n) (hm : n ≤ 65536) (hd : n % 8 = 0) :
    Calls Try.prog 11 #[.int .i64 (n : Int)] w fun e w' => ∃ d, e = .returned (.tuple #[ptr d, .int .i64 0]) ∧ Grommet.Own w0 w' (Ps ++ [devP d (List.replicate n PW.nought)]) := by
  obtain ⟨i0, hi0, hz0, hz1, hz2⟩ := info_parts infoWord
  have hmk : ∀ w', (Instr.makeSlice 59 (.int .i64 (n : Int)) (.int .i64 (n : Int))).run Try.prog w' = .ok (.slice (some ⟨w'.heap.size, 0, none⟩) n n) (w'.alloc (.cells (flat (List.replicate n PW.nought)).toArray 69)) := by
    intro w'
    have := run_make (P := Try.prog) w' 59 69 i0 _ wordsT hi0 hz0 .i64 .i64 n n (by omega) (Int.le_refl _) (by rw [hz2]; omega) (by omega)
    rw [hz1] at this
    rw [this]
    have hc : (madeCells (Value.cells (.agg #[.int .u64 0, .int .u64 0, .bool false, .bool false, .bool false, .int .u64 0])) ((n : Int).toNat * 6)) = (flat (List.replicate n PW.nought)).toArray := by
      apply Array.toList_inj.1
      rw [← flat_zero n]
      rfl
    rw [hc]
    rfl
  have hrem : Int.tmod (n : Int) 8 = 0 := by rw [Int.tmod_eq_emod_of_nonneg (by omega)]; omega
  have hrem2 : (n : Int) % 8 = 0 := by omega
  have l1 : ¬ (n : Int) < 8 := by omega
  have l2 : ¬ (65536 : Int) < (n : Int) := by omega
  have l3 : (8 : Int) ≤ (n : Int) := by omega
  have l4 : (n : Int) ≤ 65536 := by omega
  have hw0 : IntKind.i64.wrap 0 = 0 := by decide
  have hfin : Hid (Grommet.Own w0 ((w.alloc (.cells (flat (List.replicate n PW.nought)).toArray 69)).alloc (.cells #[.slice (some ⟨w.heap.size, 0, none⟩) n n] 61)) (Ps ++ [devP (w.heap.size + 1) (List.replicate n PW.nought)])) := Lib.hid (by
    have r1 := heap_alloc_new w (.cells (flat (List.replicate n PW.nought)).toArray 69)
    have r2 := heap_alloc_new (w.alloc (.cells (flat (List.replicate n PW.nought)).toArray 69)) (.cells #[.slice (some ⟨w.heap.size, 0, none⟩) n n] 61)
    rw [World.size_alloc] at r2
    refine h.add (F := fun i => i = w.heap.size ∨ i = w.heap.size + 1) ⟨w.heap.size, ⟨by rw [List.length_replicate]; exact r2, ((World.grownBy_alloc _ _ none).block _ (by simp) (by simp)).trans r1, by omega, by rw [List.length_replicate]; exact hm, ?_⟩, .inr rfl, .inl rfl, fun i hi => by simp; omega⟩ (fun i hi => by omega) (grown_trans (World.grownBy_alloc _ _ none) (World.grownBy_alloc _ _ none))
    intro c hc
    rw [List.eq_of_mem_replicate hc]; exact PW.nought_small)
  clear h hi0 hz0 hz1 hz2
  generalize (flat (List.replicate n PW.nought)).toArray = FL at hmk hfin
  generalize List.replicate n PW.nought = WS at hfin ⊢
  unfold ptr
  go_enter Try.func11, Try.ntmps11
  go_wp2
  exact bodyPost_ret (v := .tuple #[.pointer (some ⟨w.heap.size + 1, 0, none⟩), .int .i64 0]) (by simp [results, Try.results11, go_sem]) rfl ⟨_, rfl, hfin.out⟩
end Go.Proofs.Ytimihchklecabaa
