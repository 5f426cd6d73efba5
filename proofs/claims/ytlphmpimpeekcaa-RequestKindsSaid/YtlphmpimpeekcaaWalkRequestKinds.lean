/- RequestKinds, worked out. -/
import Derived.Test.YtlphmpimpeekcaaRunRequestKinds
namespace Go.Proofs.Ytlphmpimpeekcaa.requestKinds
open Go.Ev

theorem walk (a : Int) (w : World) (wf : (Lit.int .u8 a).wf = true) : Calls Try.prog 6 #[.int .u8 a] w (WorksIs w) := by
  have h : 0 ≤ a ∧ a ≤ 255 := by
    simp only [Lit.wf, IntKind.min, IntKind.max, IntKind.signed, IntKind.bits] at wf
    simp at wf
    omega
  obtain ⟨n, rfl⟩ : ∃ n : Nat, a = Int.ofNat n := ⟨a.toNat, by simp only [Int.ofNat_eq_natCast]; omega⟩
  have hn : n < 256 := by have := h.2; simp only [Int.ofNat_eq_natCast] at this; omega
  exact evQ_true (by kernel_rfl) told (by kernel_rfl) (all n hn) rfl w
end Go.Proofs.Ytlphmpimpeekcaa.requestKinds
