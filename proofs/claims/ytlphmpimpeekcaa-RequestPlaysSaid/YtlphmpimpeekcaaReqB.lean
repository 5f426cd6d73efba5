/- Package request: a request, its fields; what May's hand does. -/
import Derived.Test.YtlphmpimpeekcaaReqA
import Derived.Test.YtlphmpimpeekcaaHeap
import Derived.Test.YtlphmpimpeekcaaSame
import Derived.Test.YtlphmpimpeekcaaBase6
import Derived.Deep.RegionLaw
import Derived.Deep.CutBlock
import Derived.Deep.QuietTactic
import Derived.BigQuiet
namespace Go.Proofs.Ytlphmpimpeekcaa
open Go.RowKit Go.Grommet

theorem own_put {w0 w : World} {Ps : List Pr} (h : Grommet.Own w0 w Ps) (k : Nat) {X : Nat} {T : TypeId} {cs : Array Value} (hk : Ps[k]? = some (boxP X T cs)) (o : Nat) (u : Value) : Grommet.Own w0 (w.setCell ⟨X, o, none⟩ u) (Ps.set k (boxP X T (cs.setIfInBounds o u))) := by
  obtain ⟨F, h1, h2⟩ := h.take k hk
  exact h2 _ _ ⟨F, ⟨heap_setCell_at h1.1 u, h1.2.1, fun i hi => Nat.lt_of_lt_of_le (h1.2.2 i hi) (by simp [World.setCell])⟩, fun i hi => .inl hi, Turn.of (grown_setCell _ _ _) (fun i e => by cases e; exact h1.2.1)⟩
theorem lastQ (Ps : List Pr) (P : Pr) : (Ps ++ [P])[Ps.length]? = some P := by simp
theorem own_cellB {w0 w : World} {Ps : List Pr} (h : Grommet.Own w0 w Ps) (k : Nat) {X : Nat} {T : TypeId} {cs : Array Value} (hk : Ps[k]? = some (boxP X T cs)) (o : Nat) {u : Value} (hu : cs[o]? = some u) : w.cell? ⟨X, o, none⟩ = some u ∧ w.frozen? ⟨X, o, none⟩ = false := by
  have hb := h.box k hk
  exact ⟨by simp [World.cell?, hb, hu], by simp [World.frozen?, hb]⟩

/-- A request. -/
structure Rq where
  k : Nat
  fl : Nat
  fd : Nat
  at_ : Nat
  sz : Nat
  p : ByteArray
  t : ByteArray
  d : ByteArray
def Rq.cs (r : Rq) : Array Value := #[.int .u8 (r.k : Int), .int .u8 (r.fl : Int), .int .u64 (r.fd : Int), .int .u64 (r.at_ : Int), .int .u64 (r.sz : Int), .string r.p, .string r.t, .string r.d]
/-- Its numbers are such. -/
structure Rq.Ok (r : Rq) : Prop where
  k : r.k < 256
  fl : r.fl < 256
  fd : r.fd < 18446744073709551616
  at_ : r.at_ < 18446744073709551616
  sz : r.sz < 18446744073709551616
def numF (I : Nat) : Value := .func (.func 30) #[] #[.pointer (some ⟨I, 0, none⟩)]
def txtF (I : Nat) : Value := .func (.func 31) #[] #[.pointer (some ⟨I, 0, none⟩)]

set_option maxRecDepth 100000 in
theorem awayNum (l I n m : Nat) (b : Bool) (w0 w : World) (Ps : List Pr) (h : Grommet.Own w0 w Ps) (hl : Ps[l]? = some (boxP I 4 #[.bool b])) :
    Calls Try.prog 30 #[.int .u64 (n : Int), .int .u64 (m : Int), .pointer (some ⟨I, 0, none⟩)] w fun e w' => e = .returned (.int .u64 0) ∧ Grommet.Own w0 w' (Ps.set l (boxP I 4 #[.bool (b && decide (n ≤ m))])) := by
  obtain ⟨c1, z1⟩ := own_cellB h l hl 0 rfl
  have hS := Lib.hid (own_put h l hl 0 (.bool (b && decide (n ≤ m))))
  have e1 : decide ((n : Int) ≤ (m : Int)) = decide (n ≤ m) := by rw [decide_eq_decide]; omega
  cases b
  · simp only [Bool.false_and] at hS ⊢
    clear e1 h hl
    go_enter Try.func30, Try.ntmps30
    go_wp2
    go_ret
    exact ⟨rfl, hS.out⟩
  · simp only [Bool.true_and] at hS ⊢
    clear e1 h hl
    go_enter Try.func30, Try.ntmps30
    go_wp2
    go_ret
    exact ⟨rfl, hS.out⟩
set_option maxRecDepth 100000 in
theorem awayTxt (l I m : Nat) (s : ByteArray) (b : Bool) (w0 w : World) (Ps : List Pr) (h : Grommet.Own w0 w Ps) (hl : Ps[l]? = some (boxP I 4 #[.bool b])) :
    Calls Try.prog 31 #[.string s, .int .i64 (m : Int), .pointer (some ⟨I, 0, none⟩)] w fun e w' => e = .returned (.string ⟨#[]⟩) ∧ Grommet.Own w0 w' (Ps.set l (boxP I 4 #[.bool (b && decide (s.size ≤ m))])) := by
  obtain ⟨c1, z1⟩ := own_cellB h l hl 0 rfl
  have hS := Lib.hid (own_put h l hl 0 (.bool (b && decide (s.size ≤ m))))
  obtain ⟨n, hn⟩ : ∃ n, s.size = n := ⟨_, rfl⟩
  rw [hn] at hS ⊢
  have e1 : decide ((n : Int) ≤ (m : Int)) = decide (n ≤ m) := by rw [decide_eq_decide]; omega
  have e2 : (s.size : Int) = (n : Int) := by rw [hn]
  cases b
  · simp only [Bool.false_and] at hS ⊢
    clear e1 h hl hn
    go_enter Try.func31, Try.ntmps31
    go_wp2
    go_ret
    exact ⟨rfl, hS.out⟩
  · simp only [Bool.true_and] at hS ⊢
    clear e1 h hl hn
    go_enter Try.func31, Try.ntmps31
    go_wp2
    go_ret
    exact ⟨rfl, hS.out⟩
end Go.Proofs.Ytlphmpimpeekcaa
