/- A text of so many letters, as the law makes it. -/
import Derived.Test.YtlphmpimpeekcaaReqF
namespace Go.Proofs.Ytlphmpimpeekcaa
open Go.RowKit Go.Grommet

set_option maxRecDepth 100000 in
set_option maxHeartbeats 1000000 in
theorem text_any (n : Nat) (hn : n < 1000) (w : World) : Calls Try.prog 18 #[.int .i64 (n : Int)] w fun e w' => ∃ s : ByteArray, s.size = n ∧ e = .returned (.string s) ∧ w.grownBy w' none := by
  obtain ⟨i0, hi, hz0, hz1, hz2⟩ := info_parts Try.info5
  have h1 : ¬ (n : Int) < 0 := by omega
  go_enter Try.func18, Try.ntmps18
  go_wp2_with (at_make; refine wpList_make_full _ rfl _ _ 25 rfl w.heap.size 5 i0 (.int .u8 0) 1 Try.underlying25 hi hz0 hz1 _ _ _ _ n rfl rfl ?m0 ?m1 ?m2 ?m3 ?m4 ?_)
  case m0 => rfl
  case m1 => rfl
  case m2 => omega
  case m3 => unfold maxLen; omega
  intro w1 hown1 hg1
  have hown1' : ∃ bs : List UInt8, bs.length = n ∧ w1.ownsRow w.heap.size 5 1 (.slice (some ⟨w.heap.size, 0, none⟩) n n) n (bs.map bv) := ⟨List.replicate n 0, by simp, by
    have e : (List.replicate n (0 : UInt8)).map bv = List.replicate n (.int .u8 0) := by rw [List.map_replicate]; rfl
    have e2 : (madeCells #[Value.int .u8 0] n).toList = List.replicate n (.int .u8 0) := by simp [madeCells, Nat.mod_one, List.map_const']
    rw [e, ← e2]; exact hown1⟩
  clear hown1
  go_wp2_with fail
  go_loopw [4] (fun i wr => ∃ k : Nat, k ≤ n ∧ i = .int .i64 (k : Int) ∧ Hid (∃ bs : List UInt8, bs.length = n ∧ wr.ownsRow w.heap.size 5 1 (.slice (some ⟨w.heap.size, 0, none⟩) n n) n (bs.map bv)) ∧ w.grownBy wr none) (fun i _ => n - (intOf i).toNat)
  case atStart => exact ⟨0, Nat.zero_le _, rfl, Lib.hid hown1', hg1⟩
  case round =>
    obtain ⟨k, hk, rfl, hown, hg⟩ := hrel
    clear hown1' hg1
    have k0 : (0 : Int) ≤ (k : Int) := by omega
    obtain ⟨bs, hbl, hown⟩ := hown.out
    by_cases hlt : k < n
    · have hlt' : (k : Int) < (n : Int) := by omega
      have hfr := hown.frozenAt k
      obtain ⟨vold, hold⟩ : ∃ v, wr.cell? ⟨w.heap.size, k, none⟩ = some v := by
        rw [hown.cellAt k (by omega)]
        exact ⟨_, List.getElem?_eq_getElem (by rw [List.length_map, hbl]; exact hlt)⟩
      have wk : IntKind.i64.wrap ((k : Int) + 1) = (k : Int) + 1 := IntWalk.i64_in _ ⟨by omega, by omega⟩
      obtain ⟨m, Hm⟩ : ∃ m, Hid (m = k % 26) := ⟨_, Lib.hid rfl⟩
      have hm : m < 26 := by rw [Hm.out]; omega
      have e1 : (k : Int) % 26 = (m : Int) := by rw [Hm.out]; omega
      have e2 : Int.tmod (k : Int) 26 = (m : Int) := by rw [Int.tmod_eq_emod_of_nonneg (by omega)]; exact e1
      have wm : IntKind.u8.wrap (m : Int) = (m : Int) := IntWalk.u8_in _ ⟨by omega, by omega⟩
      have wm2 : IntKind.u8.wrap (97 + (m : Int)) = ((97 + m : Nat) : Int) := by rw [IntWalk.u8_in _ ⟨by omega, by omega⟩]; omega
      have hst := (hown.stored k (bv (UInt8.ofNat (97 + m)))).1
      have hb9 : bv (UInt8.ofNat (97 + m)) = .int .u8 ((97 + m : Nat) : Int) := by
        unfold bv; rw [UInt8.toNat_ofNat']; congr 2; omega
      rw [← List.map_set, hb9] at hst
      obtain ⟨q, hq⟩ : ∃ q, 97 + m = q := ⟨_, rfl⟩
      rw [hq] at hst wm2
      have hfin : Hid (∃ cs : List UInt8, cs.length = n ∧ (wr.setCell ⟨w.heap.size, k, none⟩ (.int .u8 (q : Int))).ownsRow w.heap.size 5 1 (.slice (some ⟨w.heap.size, 0, none⟩) n n) n (cs.map bv)) := Lib.hid ⟨bs.set k (UInt8.ofNat q), by rw [List.length_set, hbl], hst⟩
      have Hin := Lib.hid hlt
      have Hg := Lib.hid (grown_new hg (grown_setCell wr ⟨w.heap.size, k, none⟩ (.int .u8 (q : Int))) (by intro g e; cases e; exact Nat.le_refl _))
      clear hst hb9 hq hown hbl hlt hk hg hm
      go_wp2
      go_roundw
      case rel => exact ⟨k + 1, Hin.out, by go_num, hfin, Hg.out⟩
      case measure => have := Hin.out; simp [intOf]; omega
    · obtain rfl : k = n := by omega
      have hcv := conv_at (P := Try.prog) (w := wr) 25 9 5 Try.underlying25 Try.underlying5 Try.underlying9 (ad := some ⟨w.heap.size, 0, none⟩) (cap := k) (l := k) (bs := bs)
        (by obtain ⟨a, c, he, ha, _⟩ := at_of_owns hown; cases he; exact ha) hbl (by simp)
      have hlt' : ¬ (k : Int) < (k : Int) := by omega
      have Hb := Lib.hid hbl
      clear hown hbl hlt hk
      go_wp2
      go_ret
      exact ⟨str bs, by show bs.toArray.size = k; rw [List.size_toArray]; exact Hb.out, rfl, hg⟩
end Go.Proofs.Ytlphmpimpeekcaa
