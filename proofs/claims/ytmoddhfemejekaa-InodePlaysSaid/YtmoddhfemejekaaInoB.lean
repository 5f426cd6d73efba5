/- A node and a geometry in memory; the law's small geometry. -/
import Derived.Test.YtmoddhfemejekaaInoA
import Derived.Test.YtmoddhfemejekaaWorks
namespace Go.Proofs.Ytmoddhfemejekaa
open Go.RowKit Go.Grommet

def WorksIs (w : World) (e : Ending) (w' : World) : Prop := e = .returned (.bool true) ∧ w.grownBy w' none
theorem works_any (w : World) : Calls Try.prog 8 #[] w (WorksIs w) := works_ev w

def NodeS (N : Nat) (k l o s d0 d1 d2 d3 ch p : Nat) (w : World) : Prop := w.heap[N]? = some (.cells #[.int .u64 (k : Int), .int .u64 (l : Int), .int .u64 (o : Int), .int .u64 (s : Int), .int .u64 (d0 : Int), .int .u64 (d1 : Int), .int .u64 (d2 : Int), .int .u64 (d3 : Int), .int .u64 (ch : Int), .int .u64 (p : Int)] 38 (0, 0))
theorem NodeS.keep {N : Nat} {k l o s d0 d1 d2 d3 ch p : Nat} {w w' : World} (h : NodeS N k l o s d0 d1 d2 d3 ch p w) (hg : w.grownBy w' none) : NodeS N k l o s d0 d1 d2 d3 ch p w' := (hg.block N (lt_of_block h) (by simp)).trans h
theorem NodeS.cells {N : Nat} {k l o s d0 d1 d2 d3 ch p : Nat} {w : World} (h : NodeS N k l o s d0 d1 d2 d3 ch p w) : w.cell? ⟨N, 0, none⟩ = some (.int .u64 (k : Int)) ∧ w.cell? ⟨N, 1, none⟩ = some (.int .u64 (l : Int)) ∧ w.cell? ⟨N, 2, none⟩ = some (.int .u64 (o : Int)) ∧ w.cell? ⟨N, 3, none⟩ = some (.int .u64 (s : Int)) ∧ w.cell? ⟨N, 4, none⟩ = some (.int .u64 (d0 : Int)) ∧ w.cell? ⟨N, 5, none⟩ = some (.int .u64 (d1 : Int)) ∧ w.cell? ⟨N, 6, none⟩ = some (.int .u64 (d2 : Int)) ∧ w.cell? ⟨N, 7, none⟩ = some (.int .u64 (d3 : Int)) ∧ w.cell? ⟨N, 8, none⟩ = some (.int .u64 (ch : Int)) ∧ w.cell? ⟨N, 9, none⟩ = some (.int .u64 (p : Int)) := by
  unfold NodeS at h
  refine ⟨?_, ?_, ?_, ?_, ?_, ?_, ?_, ?_, ?_, ?_⟩ <;> simp [World.cell?, h]
theorem NodeS.free {N : Nat} {k l o s d0 d1 d2 d3 ch p : Nat} {w : World} (h : NodeS N k l o s d0 d1 d2 d3 ch p w) (i : Nat) : w.frozen? ⟨N, i, none⟩ = false := by
  unfold NodeS at h
  simp [World.frozen?, h]
def GeoS (G : Nat) (a b c : Int) (w : World) : Prop := w.heap[G]? = some (.cells #[.int .i64 a, .int .i64 b, .int .i64 c] 23 (0, 0))
theorem GeoS.keep {G : Nat} {a b c : Int} {w w' : World} (h : GeoS G a b c w) (hg : w.grownBy w' none) : GeoS G a b c w' := (hg.block G (lt_of_block h) (by simp)).trans h
theorem GeoS.cells {G : Nat} {a b c : Int} {w : World} (h : GeoS G a b c w) : w.cell? ⟨G, 0, none⟩ = some (.int .i64 a) ∧ w.cell? ⟨G, 1, none⟩ = some (.int .i64 b) ∧ w.cell? ⟨G, 2, none⟩ = some (.int .i64 c) := by
  unfold GeoS at h
  refine ⟨?_, ?_, ?_⟩ <;> simp [World.cell?, h]
theorem GeoS.past {G N o : Nat} {a b c : Int} {u : Value} {w : World} (h : GeoS G a b c w) (hn : G ≠ N) : GeoS G a b c (w.setCell ⟨N, o, none⟩ u) := ((grown_setCell w ⟨N, o, none⟩ u).block G (lt_of_block h) (by simp; exact hn)).trans h

set_option maxHeartbeats 1000000 in
theorem Small_any (x y : Nat) (hx : x < 256) (hy : y < 256) (w : World) : Calls Try.prog 23 #[.int .u8 (x : Int), .int .u8 (y : Int)] w
    fun e w' => e = .returned (gv 1 ((2 + x % 20 : Nat) : Int) ((2 + y % 60 : Nat) : Int)) ∧ w.grownBy w' none := by
  unfold gv
  have e1 : (x : Int) % 20 = ((x % 20 : Nat) : Int) := by omega
  have e2 : (y : Int) % 60 = ((y % 60 : Nat) : Int) := by omega
  have c2 : ((2 + x % 20 : Nat) : Int) = 2 + ((x % 20 : Nat) : Int) := by omega
  have c3 : ((2 + y % 60 : Nat) : Int) = 2 + ((y % 60 : Nat) : Int) := by omega
  rw [c2, c3]
  have b1 : x % 20 < 20 := by omega
  have b2 : y % 60 < 60 := by omega
  generalize x % 20 = X at e1 b1
  generalize y % 60 = Y at e2 b2
  clear c2 c3
  go_enter Try.func23, Try.ntmps23
  go_wp2
  exact bodyPost_ret (v := .agg #[.int .i64 1, .int .i64 (2 + (X : Int)), .int .i64 (2 + (Y : Int))]) (by simp [results, Try.results23, go_sem]) rfl ⟨rfl, World.grownBy_alloc w _ none⟩
end Go.Proofs.Ytmoddhfemejekaa
