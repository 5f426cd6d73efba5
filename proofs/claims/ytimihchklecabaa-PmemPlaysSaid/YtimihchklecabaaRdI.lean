/- New devices; what is refused; few. -/
import Derived.Test.YtimihchklecabaaRdB
import Derived.Test.YtimihchklecabaaPst
import Derived.BigQuiet
import Derived.Deep.QuietTactic
import Derived.StillTailTactics
import Derived.Deep.DeepCutAuto
-- OPTIONAL
namespace Go.Proofs.Ytimihchklecabaa
open Go.RowKit Go.Grommet Go.Shelf

theorem flatR_zero (n : Nat) : (madeCells #[Value.int .u64 0, .int .u64 0, .bool false, .bool false, .int .u64 0, .bool false] (n * 6)).toList = flatR (List.replicate n RW.nought) := by
  apply List.ext_getElem?
  intro i
  by_cases hi : i < n * 6
  · have hw : (List.replicate n RW.nought)[i / 6]? = some RW.nought := by rw [List.getElem?_replicate, if_pos (by omega)]
    have h1 := flatR_get (List.replicate n RW.nought) (i / 6) (i % 6) RW.nought hw (Nat.mod_lt _ (by decide))
    rw [show i / 6 * 6 + i % 6 = i from by omega] at h1
    rw [h1, Array.getElem?_toList]
    have hm : i % 6 = 0 ∨ i % 6 = 1 ∨ i % 6 = 2 ∨ i % 6 = 3 ∨ i % 6 = 4 ∨ i % 6 = 5 := by omega
    simp only [madeCells, Array.getElem?_map, Array.getElem?_range, hi, if_true, Option.map_some]
    rcases hm with e | e | e | e | e | e <;> simp [e, RW.vs, RW.nought]
  · rw [List.getElem?_eq_none (by rw [Array.length_toList, size_madeCells]; omega), List.getElem?_eq_none (by rw [flatR_len, List.length_replicate]; omega)]
theorem wordsRT : Try.prog.underlying 62 = some (.slice 71) := Try.underlying62
theorem infoRW : (Try.prog.info? 71).map (fun i => (i.zero, i.size, i.bytes)) = some (some (.agg #[.int .u64 0, .int .u64 0, .bool false, .bool false, .int .u64 0, .bool false]), 6, 40) := by kernel_rfl

def NewR (n : Nat) (w0 : World) (Ps : List Pr) (e : Ending) (w' : World) : Prop := ∃ d g, e = .returned (.tuple #[ptr d, .int .i64 0]) ∧ Grommet.Own w0 w' (Ps ++ [rowR g n (List.replicate n RW.nought), boxR d g n])
set_option maxHeartbeats 1000000 in
theorem RNew_yes (n : Nat) (w0 w : World) (Ps : List Pr) (h : Grommet.Own w0 w Ps) (h8 : 8 ≤ n) (hm : n ≤ 65536) (hd : n % 8 = 0) :
    Calls Try.prog 12 #[.int .i64 (n : Int)] w (NewR n w0 Ps) := by
  obtain ⟨i0, hi0, hz0, hz1, hz2⟩ := info_parts infoRW
  have hmk : ∀ w', (Instr.makeSlice 62 (.int .i64 (n : Int)) (.int .i64 (n : Int))).run Try.prog w' = .ok (.slice (some ⟨w'.heap.size, 0, none⟩) n n) (w'.alloc (.cells (flatR (List.replicate n RW.nought)).toArray 71)) := by
    intro w'
    have := run_make (P := Try.prog) w' 62 71 i0 _ wordsRT hi0 hz0 .i64 .i64 n n (by omega) (Int.le_refl _) (by rw [hz2]; omega) (by omega)
    rw [hz1] at this
    rw [this]
    have hc : (madeCells (Value.cells (.agg #[.int .u64 0, .int .u64 0, .bool false, .bool false, .int .u64 0, .bool false])) ((n : Int).toNat * 6)) = (flatR (List.replicate n RW.nought)).toArray := by
      apply Array.toList_inj.1
      rw [← flatR_zero n]
      rfl
    rw [hc]
    rfl
  have hrem : Int.tmod (n : Int) 8 = 0 := by rw [Int.tmod_eq_emod_of_nonneg (by omega)]; omega
  have hrem2 : (n : Int) % 8 = 0 := by omega
  have l1 : ¬ (n : Int) < 8 := by omega
  have l2 : ¬ (65536 : Int) < (n : Int) := by omega
  have l3 : (8 : Int) ≤ (n : Int) := by omega
  have l4 : (n : Int) ≤ 65536 := by omega
  have hw0 : IntKind.i64.wrap 0 = 0 := by decide
  have hfin : Hid (Grommet.Own w0 ((w.alloc (.cells (flatR (List.replicate n RW.nought)).toArray 71)).alloc (.cells #[.slice (some ⟨w.heap.size, 0, none⟩) n n] 64)) (Ps ++ [rowR w.heap.size n (List.replicate n RW.nought), boxR (w.heap.size + 1) w.heap.size n])) := Lib.hid (by
    have r1 := heap_alloc_new w (.cells (flatR (List.replicate n RW.nought)).toArray 71)
    have hl : (flatR (List.replicate n RW.nought)).length = 6 * n := by rw [flatR_len, List.length_replicate]
    have hrow : (w.alloc (.cells (flatR (List.replicate n RW.nought)).toArray 71)).ownsRow w.heap.size 71 6 (.slice (some ⟨w.heap.size, 0, none⟩) n n) n (flatR (List.replicate n RW.nought)) :=
      ⟨by rw [hl, Nat.mul_comm], .inr ⟨w.heap.size, n, _, rfl, Nat.le_refl _, r1, Nat.le_refl _, by unfold maxLen; omega, by simp [hl, Nat.mul_comm], by rw [List.take_of_length_le (by simp [hl]; omega)]⟩⟩
    have h1 := h.addRow hrow (World.grownBy_alloc _ _ none)
    have h2 := h1.addBox 64 #[.slice (some ⟨w.heap.size, 0, none⟩) n n]
    rw [List.append_assoc] at h2
    rw [show (w.alloc (.cells (flatR (List.replicate n RW.nought)).toArray 71)).heap.size = w.heap.size + 1 by simp] at h2
    exact h2)
  clear h hd h8 hm
  go_enter Try.func12, Try.ntmps12
  go_wp2
  go_ret2
  exact ⟨_, _, rfl, hfin.out⟩
def newNo (n : Int) : Prop := n < 8 ∨ 65536 < n ∨ n % 8 ≠ 0
set_option maxHeartbeats 1000000 in
theorem RNew_no (n : Int) (w : World) (h : n < 8 ∨ 512 < n ∨ n % 8 ≠ 0) (hm : n ≤ 512) :
    Calls Try.prog 12 #[.int .i64 n] w fun e w' => e = .returned (.tuple #[.pointer none, .int .i64 1]) ∧ w' = w := by
  by_cases h1 : n < 8
  · clear h hm
    go_enter Try.func12, Try.ntmps12
    go_wp2
    go_ret2
    exact ⟨rfl, rfl⟩
  · have l2 : ¬ (65536 : Int) < n := by omega
    have l4 : n ≤ 65536 := by omega
    obtain ⟨k, hk⟩ : ∃ k, n % 8 = k := ⟨_, rfl⟩
    have hk0 : k ≠ 0 := by omega
    have hrem : Int.tmod n 8 = k := by rw [Int.tmod_eq_emod_of_nonneg (by omega)]; exact hk
    have wk : IntKind.i64.wrap k = k := IntWalk.i64_in _ ⟨by omega, by omega⟩
    have hb : (k != 0) = true := by rw [bne_iff_ne]; exact hk0
    clear h hm
    go_enter Try.func12, Try.ntmps12
    go_wp2
    go_ret2
    exact ⟨rfl, rfl⟩
set_option maxHeartbeats 1000000 in
theorem PNew_no (n : Int) (w : World) (h : n < 8 ∨ 512 < n ∨ n % 8 ≠ 0) (hm : n ≤ 512) :
    Calls Try.prog 11 #[.int .i64 n] w fun e w' => e = .returned (.tuple #[.pointer none, .int .i64 1]) ∧ w' = w := by
  by_cases h1 : n < 8
  · clear h hm
    go_enter Try.func11, Try.ntmps11
    go_wp2
    go_ret2
    exact ⟨rfl, rfl⟩
  · have l2 : ¬ (65536 : Int) < n := by omega
    have l4 : n ≤ 65536 := by omega
    obtain ⟨k, hk⟩ : ∃ k, n % 8 = k := ⟨_, rfl⟩
    have hk0 : k ≠ 0 := by omega
    have hrem : Int.tmod n 8 = k := by rw [Int.tmod_eq_emod_of_nonneg (by omega)]; exact hk
    have wk : IntKind.i64.wrap k = k := IntWalk.i64_in _ ⟨by omega, by omega⟩
    have hb : (k != 0) = true := by rw [bne_iff_ne]; exact hk0
    clear h hm
    go_enter Try.func11, Try.ntmps11
    go_wp2
    go_ret2
    exact ⟨rfl, rfl⟩

set_option maxHeartbeats 1000000 in
theorem PFlush_no (w : World) (d g : Nat) (ws : List PW) (h : DevIs w d g ws) (a : Int) (hE : hasE a (ws.length / 8) = 8) :
    Calls Try.prog 17 #[ptr d, .int .i64 a] w fun e w' => e = .returned (.int .i64 8) ∧ w' = w := by
  have HW := Lib.hid (lines_any w d g ws h)
  have HH := Lib.hid (has_any w d a (ws.length / 8))
  rw [hE] at HH
  unfold ptr at HW HH ⊢
  clear h hE
  go_enter Try.func17, Try.ntmps17
  go_wp2_with fail
  refine HW.out.mono ?_
  rintro e w1 ⟨rfl, rfl⟩
  go_wp2_with fail
  refine HH.out.mono ?_
  rintro e w1 ⟨rfl, rfl⟩
  go_wp2
  go_ret
  exact ⟨rfl, rfl⟩

set_option maxHeartbeats 1000000 in
theorem PEvict_no (w : World) (d g : Nat) (ws : List PW) (h : DevIs w d g ws) (a : Int) (hE : hasE a (ws.length / 8) = 8) :
    Calls Try.prog 21 #[ptr d, .int .i64 a] w fun e w' => e = .returned (.int .i64 8) ∧ w' = w := by
  have HW := Lib.hid (lines_any w d g ws h)
  have HH := Lib.hid (has_any w d a (ws.length / 8))
  rw [hE] at HH
  unfold ptr at HW HH ⊢
  clear h hE
  go_enter Try.func21, Try.ntmps21
  go_wp2_with fail
  refine HW.out.mono ?_
  rintro e w1 ⟨rfl, rfl⟩
  go_wp2_with fail
  refine HH.out.mono ?_
  rintro e w1 ⟨rfl, rfl⟩
  go_wp2
  go_ret
  exact ⟨rfl, rfl⟩

set_option maxHeartbeats 1000000 in
theorem few_any (td : Option Addr) (tl tc : Nat) (L : List Pst) (w : World) (hL : PstsIn w td tl L) (b : Bool) (hb : decide (tl ≤ 200 ∧ ∀ x ∈ L, x.pl ≤ 100) = b) :
    Calls Try.prog 9 #[.slice td tl tc, .int .i64 200] w fun e w' => e = .returned (.bool b) ∧ w' = w := by
  by_cases h1 : 200 < tl
  · have h1' : (200 : Int) < (tl : Int) := by omega
    obtain rfl : false = b := by rw [← hb]; simp; omega
    clear hb hL
    go_enter Try.func9, Try.ntmps9
    go_wp2
    go_ret
    exact ⟨rfl, rfl⟩
  · have h1' : ¬ (200 : Int) < (tl : Int) := by omega
    have HL := Lib.hid hL
    have Hb := Lib.hid hb
    clear hb hL
    go_enter Try.func9, Try.ntmps9
    go_wp2_with fail
    go_loopw [5] (fun s wr => ∃ k : Nat, k ≤ tl ∧ s = .int .i64 (k : Int) ∧ Hid (∀ x ∈ L.take k, x.pl ≤ 100) ∧ wr = w) (fun s _ => tl - (intOf s).toNat)
    case atStart => exact ⟨0, Nat.zero_le _, rfl, Lib.hid (by simp), rfl⟩
    case round =>
      obtain ⟨k, hk, rfl, hS, rfl⟩ := hrel
      have k0 : (0 : Int) ≤ (k : Int) := by omega
      by_cases hlt : k < tl
      · have hlt' : (k : Int) < (tl : Int) := by omega
        have hkL : k < L.length := by rw [HL.out.1]; exact hlt
        obtain ⟨⟨tg, to', rfl, _, _, _, d3⟩, _⟩ := HL.out.2.2 k L[k] (List.getElem?_eq_getElem hkL)
        have wk : IntKind.i64.wrap ((k : Int) + 1) = (k : Int) + 1 := IntWalk.i64_in _ ⟨by omega, by omega⟩
        obtain ⟨x, hx⟩ : ∃ x, L[k] = x := ⟨_, rfl⟩
        rw [hx] at d3
        by_cases hp : 100 < x.pl
        · have hp' : (100 : Int) < (x.pl : Int) := by omega
          obtain rfl : false = b := by
            rw [← Hb.out]
            symm
            rw [decide_eq_false_iff_not]
            intro h
            have := h.2 x (by rw [← hx]; exact List.getElem_mem hkL)
            omega
          clear hx hp hS
          generalize x.pl = q at d3 hp'
          go_wp2
          go_ret
          exact ⟨rfl, rfl⟩
        · have hp' : ¬ (100 : Int) < (x.pl : Int) := by omega
          have HS2 : Hid (∀ y ∈ L.take (k + 1), y.pl ≤ 100) := Lib.hid (by
            rw [List.take_succ_eq_append_getElem hkL, hx]
            intro y hy
            rcases List.mem_append.1 hy with e | e
            · exact hS.out y e
            · rw [List.mem_singleton.1 e]; omega)
          clear hx hp hS
          generalize x.pl = q at d3 hp'
          go_wp2
          go_roundw
          case rel => exact ⟨k + 1, by omega, by go_num, HS2, trivial⟩
          case measure => simp [intOf]; omega
      · have hlt' : ¬ (k : Int) < (tl : Int) := by omega
        obtain rfl : true = b := by
          rw [← Hb.out]
          symm
          rw [decide_eq_true_iff]
          have := hS.out
          rw [List.take_of_length_le (by rw [HL.out.1]; omega)] at this
          exact ⟨by omega, this⟩
        clear hS
        go_wp2
        go_ret
        exact ⟨rfl, rfl⟩
end Go.Proofs.Ytimihchklecabaa
