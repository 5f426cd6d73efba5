/- Package slot: what may be saved. -/
import Derived.Test.YtdpkpphjpihhkaaSloJ
import Derived.Test.YtdpkpphjpihhkaaOctQ
namespace Go.Proofs.Ytdpkpphjpihhkaa
open Go.RowKit Go.Grommet

theorem cell_new9 (w : World) (cs : Array Value) (T : TypeId) (j : Nat) : (w.alloc (.cells cs T)).cell? ⟨w.heap.size, j, none⟩ = cs[j]? := by
  have h := heap_alloc_new w (.cells cs T)
  obtain ⟨Y, hY⟩ : ∃ Y, Y = w.heap.size := ⟨_, rfl⟩
  rw [← hY] at h ⊢
  simp [World.cell?, h]

def mayR (er : Int) (n : Nat) : Bool := decide (0 ≤ er) && decide (er ≤ 24) && decide (n ≤ 64)
set_option maxRecDepth 100000 in
set_option maxHeartbeats 1000000 in
theorem slotMay_any (er ra rb : Int) (d : ByteArray) (w : World) : Calls Try.prog 26 #[.agg #[.int .i64 er, .int .u64 ra, .int .u64 rb, .string d]] w fun e w' => e = .returned (.bool (mayR er d.size)) ∧ w.grownBy w' none := by
  unfold mayR
  obtain ⟨n, hn⟩ : ∃ n, d.size = n := ⟨_, rfl⟩
  rw [hn]
  have hg := World.grownBy_alloc w (.cells #[.int .i64 er, .int .u64 ra, .int .u64 rb, .string d] 39) none
  have z0 : (w.alloc (.cells #[.int .i64 er, .int .u64 ra, .int .u64 rb, .string d] 39)).cell? ⟨w.heap.size, 0, none⟩ = some (.int .i64 er) := cell_new9 _ _ _ _
  have z3 : (w.alloc (.cells #[.int .i64 er, .int .u64 ra, .int .u64 rb, .string d] 39)).cell? ⟨w.heap.size, 3, none⟩ = some (.string d) := cell_new9 _ _ _ _
  by_cases h1 : 0 ≤ er
  · by_cases h2 : er ≤ 24
    · by_cases h3 : n ≤ 64
      · have h3' : (n : Int) ≤ 64 := by omega
        rw [show (decide (0 ≤ er) && decide (er ≤ 24) && decide (n ≤ 64)) = true from by rw [decide_eq_true h1, decide_eq_true h2, decide_eq_true h3]; rfl]
        go_enter Try.func26, Try.ntmps26
        go_wp2
        go_ret
        exact ⟨rfl, hg⟩
      · have h3' : ¬ (n : Int) ≤ 64 := by omega
        rw [show (decide (0 ≤ er) && decide (er ≤ 24) && decide (n ≤ 64)) = false from by rw [decide_eq_true h1, decide_eq_true h2, decide_eq_false h3]; rfl]
        go_enter Try.func26, Try.ntmps26
        go_wp2
        go_ret
        exact ⟨rfl, hg⟩
    · rw [show (decide (0 ≤ er) && decide (er ≤ 24) && decide (n ≤ 64)) = false from by rw [decide_eq_true h1, decide_eq_false h2]; rfl]
      go_enter Try.func26, Try.ntmps26
      go_wp2
      go_ret
      exact ⟨rfl, hg⟩
  · rw [show (decide (0 ≤ er) && decide (er ≤ 24) && decide (n ≤ 64)) = false from by rw [decide_eq_false h1]; rfl]
    go_enter Try.func26, Try.ntmps26
    go_wp2
    go_ret
    exact ⟨rfl, hg⟩

set_option maxRecDepth 100000 in
set_option maxHeartbeats 1000000 in
theorem hasNo (g : Nat) (i at_ : Int) (w : World) (hat : sessionV i = at_) (ha : 0 ≤ at_) :
    Calls Try.prog 48 #[.pointer (some ⟨g, 0, none⟩), .int .i64 i, .bool false] w fun e w' => e = .returned (.int .i64 1) ∧ w.grownBy w' none := by
  have HS := Lib.hid (fun wx => SessionAt_any i wx)
  rw [hat] at HS
  have a0 : ¬ at_ < 0 := by omega
  have d0 : decide (at_ < 0) = false := by simpa using a0
  clear hat
  go_enter Try.func48, Try.ntmps48
  go_wp2_with fail
  refine (HS.out _).mono ?_
  rintro e w1 ⟨rfl, hg⟩
  go_wp2
  go_ret
  exact ⟨rfl, hg⟩

/-- A number that a call may have. -/
def seqB (sq : Nat) : Bool := decide (1 ≤ sq) && decide (sq ≤ 1099511627776)

def ResS (X : Nat) (er : Int) (ra rb : Int) (d : ByteArray) (w : World) : Prop := w.heap[X]? = some (.cells #[.int .i64 er, .int .u64 ra, .int .u64 rb, .string d] 39 (0, 0))
theorem ResS.keep {X : Nat} {er ra rb : Int} {d : ByteArray} {w w' : World} (h : ResS X er ra rb d w) (hg : w.grownBy w' none) : ResS X er ra rb d w' := (hg.block X (lt_of_block h) (by simp)).trans h
theorem ResS.cells {X : Nat} {er ra rb : Int} {d : ByteArray} {w : World} (h : ResS X er ra rb d w) : w.cell? ⟨X, 0, none⟩ = some (.int .i64 er) ∧ w.cell? ⟨X, 1, none⟩ = some (.int .u64 ra) ∧ w.cell? ⟨X, 2, none⟩ = some (.int .u64 rb) ∧ w.cell? ⟨X, 3, none⟩ = some (.string d) := by
  unfold ResS at h
  exact ⟨by simp [World.cell?, h], by simp [World.cell?, h], by simp [World.cell?, h], by simp [World.cell?, h]⟩

set_option maxRecDepth 100000 in
set_option maxHeartbeats 4000000 in
theorem SaveNo (g : Nat) (i kk at_ sl : Int) (sq : Nat) (er : Int) (ra rb : Int) (d : ByteArray) (w : World) (hat : sessionV i = at_) (ha : 0 ≤ at_) (hsl : slotV i kk = sl) (hs : 0 ≤ sl) (hno : (seqB sq && mayR er d.size) = false) :
    Calls Try.prog 27 #[.pointer (some ⟨g, 0, none⟩), .int .i64 i, .int .i64 kk, .int .u64 (sq : Int), .agg #[.int .i64 er, .int .u64 ra, .int .u64 rb, .string d]] w fun e w' => e = .returned (.int .i64 1) ∧ w.grownBy w' none := by
  have HS := Lib.hid (fun wx => SlotAt_any i kk wx)
  rw [hsl] at HS
  have HM := Lib.hid (fun wx => slotMay_any er ra rb d wx)
  have HN := Lib.hid (fun wx => hasNo g i at_ wx hat ha)
  obtain ⟨X, HX⟩ : ∃ X, Hid (X = w.heap.size) := ⟨_, Lib.hid rfl⟩
  have hb0 : ResS X er ra rb d (w.alloc (.cells #[.int .i64 er, .int .u64 ra, .int .u64 rb, .string d] 39)) := by rw [HX.out]; exact heap_alloc_new w _
  have hg0 := Lib.hid (World.grownBy_alloc w (.cells #[.int .i64 er, .int .u64 ra, .int .u64 rb, .string d] 39) none)
  replace hb0 := Lib.hid hb0
  generalize mayR er d.size = m at *
  unfold seqB at hno
  clear hat ha hsl
  by_cases h1 : 1 ≤ sq
  · have h1' : (1 : Int) ≤ (sq : Int) := by omega
    by_cases h2 : sq ≤ 1099511627776
    · have h2' : (sq : Int) ≤ 1099511627776 := by omega
      obtain rfl : m = false := by simpa [h1, h2] using hno
      clear hno h1 h2
      go_enter Try.func27, Try.ntmps27
      go_wp2_with fail
      rw [← HX.out]
      refine (HS.out _).mono ?_
      rintro e w1 ⟨rfl, hg⟩
      have hb1 := hb0.out.keep hg
      have hg1 := Lib.hid (grown_trans hg0.out hg)
      obtain ⟨z0, z1, z2, z3⟩ := hb1.cells
      clear hg hb1
      go_wp2_with fail
      refine (HM.out _).mono ?_
      rintro e w2 ⟨rfl, hg⟩
      have hg2 := Lib.hid (grown_trans hg1.out hg)
      clear hg z0 z1 z2 z3
      go_wp2_with fail
      refine (HN.out _).mono ?_
      rintro e w3 ⟨rfl, hg⟩
      have hg3 := Lib.hid (grown_trans hg2.out hg)
      clear hg
      go_wp2
      go_ret
      exact ⟨rfl, hg3.out⟩
    · have h2' : ¬ (sq : Int) ≤ 1099511627776 := by omega
      clear hno h1 h2
      go_enter Try.func27, Try.ntmps27
      go_wp2_with fail
      rw [← HX.out]
      refine (HS.out _).mono ?_
      rintro e w1 ⟨rfl, hg⟩
      have hg1 := Lib.hid (grown_trans hg0.out hg)
      clear hg
      go_wp2_with fail
      refine (HN.out _).mono ?_
      rintro e w3 ⟨rfl, hg⟩
      have hg3 := Lib.hid (grown_trans hg1.out hg)
      clear hg
      go_wp2
      go_ret
      exact ⟨rfl, hg3.out⟩
  · have h1' : ¬ (1 : Int) ≤ (sq : Int) := by omega
    clear hno h1
    go_enter Try.func27, Try.ntmps27
    go_wp2_with fail
    rw [← HX.out]
    refine (HS.out _).mono ?_
    rintro e w1 ⟨rfl, hg⟩
    have hg1 := Lib.hid (grown_trans hg0.out hg)
    clear hg
    go_wp2_with fail
    refine (HN.out _).mono ?_
    rintro e w3 ⟨rfl, hg⟩
    have hg3 := Lib.hid (grown_trans hg1.out hg)
    clear hg
    go_wp2
    go_ret
    exact ⟨rfl, hg3.out⟩
end Go.Proofs.Ytdpkpphjpihhkaa
