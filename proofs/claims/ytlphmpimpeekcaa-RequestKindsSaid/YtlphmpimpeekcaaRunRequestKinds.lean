/- RequestKinds for each of 256 kinds. -/
import Derived.Test.YtlphmpimpeekcaaCvQ
import Derived.Test.YtlphmpimpeekcaaChecked
import Derived.Test.YtlphmpimpeekcaaRows
namespace Go.Proofs.Ytlphmpimpeekcaa.requestKinds
open Go.Ev

def rows : List (Nat × List (List V × V)) := [(10, [([], .bool true)])]
theorem told : Go.Ev.Told Try.prog (tellC rows) := told_table (by kernel_rfl) (told_none _) (n := 100000) (by kernel_rfl)
noncomputable def allFrom (a n : Nat) : Bool :=
  Nat.rec (motive := fun _ => Nat → Bool) (fun _ => true) (fun _ ih a => Bool.rec (motive := fun _ => Bool) false (ih (Nat.succ a)) (isTrueC ((evQ Try.prog (fun _ => none) (tellC rows) 100000).call 6 [.int .u8 (.ofNat a)] Hp.empty))) n a
theorem allFrom_spec : ∀ (n a : Nat), allFrom a n = true → ∀ k, a ≤ k → k < a + n → isTrueC ((evQ Try.prog (fun _ => none) (tellC rows) 100000).call 6 [.int .u8 (.ofNat k)] Hp.empty) = true
  | 0, _, _, k, h1, h2 => absurd h2 (by omega)
  | n + 1, a, h, k, h1, h2 => by
    have h' : Bool.rec (motive := fun _ => Bool) false (allFrom (Nat.succ a) n) (isTrueC ((evQ Try.prog (fun _ => none) (tellC rows) 100000).call 6 [.int .u8 (.ofNat a)] Hp.empty)) = true := h
    cases hc : isTrueC ((evQ Try.prog (fun _ => none) (tellC rows) 100000).call 6 [.int .u8 (.ofNat a)] Hp.empty) with
    | false => rw [hc] at h'; cases h'
    | true =>
      rw [hc] at h'
      by_cases e : k = a
      · rw [e]; exact hc
      · exact allFrom_spec n (Nat.succ a) h' k (by omega) (by omega)
theorem d0 : allFrom 0 64 = true := by kernel_rfl
theorem d1 : allFrom 64 64 = true := by kernel_rfl
theorem d2 : allFrom 128 64 = true := by kernel_rfl
theorem d3 : allFrom 192 64 = true := by kernel_rfl
theorem all (n : Nat) (hn : n < 256) : isTrueC ((evQ Try.prog (fun _ => none) (tellC rows) 100000).call 6 [.int .u8 (.ofNat n)] Hp.empty) = true :=
  if h0 : n < 64 then allFrom_spec 64 0 d0 n (by omega) (by omega)
  else if h1 : n < 128 then allFrom_spec 64 64 d1 n (by omega) (by omega)
  else if h2 : n < 192 then allFrom_spec 64 128 d2 n (by omega) (by omega)
  else allFrom_spec 64 192 d3 n (by omega) (by omega)
end Go.Proofs.Ytlphmpimpeekcaa.requestKinds
