/- The document's device: what is sure, what is seen. -/
import Derived.Test.YtimihchklecabaaRdB
import Derived.BigQuiet
import Derived.Deep.QuietTactic
import Derived.StillTailTactics
import Derived.Deep.DeepCutAuto
-- OPTIONAL
namespace Go.Proofs.Ytimihchklecabaa
open Go.RowKit Go.Grommet Go.Shelf

theorem app64P {w : World} {ops : Array Oper} {rest : List Oper} {o : Oper} {a : Act} {Q : Exit → Act → World → Prop} (hgd : o.guard = none) (s x : Operand)
    (ho : o.op = .call { callee := .builtin .append, args := #[s, x], argTypes := #[44, 44] })
    (base : Nat) (v : Value) (n : Nat) (xs : List Nat) (hs : a.eval s = v) (hown : w.ownsRow base 32 1 v n (xs.map wv))
    (ad : Addr) (m c : Nat) (ys : List Nat) (hx : a.eval x = .slice (some ad) m c) (hl : ys.length = m) (hw : At w (some ad) (ys.map wv))
    (hb : n + m ≤ 1099511627776) (hbase : base ≤ w.heap.size)
    (h : ∀ ad' cap' w', w'.ownsRow base 32 1 (.slice ad' (n + m) cap') (n + m) ((xs ++ ys).map wv) → w.grownBy w' v.ownBlock → wpList Try.prog ops Q rest (a.put o.dst (.slice ad' (n + m) cap')) w') : wpList Try.prog ops Q (o :: rest) a w := by
  obtain ⟨i0, hi, hz0, hz1, hz2⟩ := info_parts info64
  refine wpList_append_blk w hgd s x 44 ho base 32 i0 (.int .u64 0) 1 8 Try.underlying44 hi hz0 hz1 hz2 rfl (by decide) v n (xs.map wv) hs hown ad m c (ys.map wv) hx (by rw [List.length_map, hl, Nat.mul_one]) hw.some (wv_oneCell ys) (by unfold maxLen; omega) (by omega) hbase ?_
  intro ad' cap' w' ho' hg _
  exact h ad' cap' w' (by rw [List.map_append]; exact ho') hg

/-- One thing of each of the first words. -/
def colS (f : RW → Nat) (rs : List RW) (t : Nat) : List Nat := (rs.take t).map f
theorem colS_all (f : RW → Nat) (rs : List RW) (t : Nat) (h : rs.length ≤ t) : colS f rs t = rs.map f := by unfold colS; rw [List.take_of_length_le h]
theorem colS_snoc (f : RW → Nat) (rs : List RW) (t : Nat) (r : RW) (hr : rs[t]? = some r) : colS f rs t ++ [f r] = colS f rs (t + 1) := by
  have hl := (List.getElem?_eq_some_iff.1 hr).1
  unfold colS
  rw [List.take_succ_eq_append_getElem hl, List.map_append, (List.getElem?_eq_some_iff.1 hr).2]; rfl

set_option maxRecDepth 100000 in
set_option maxHeartbeats 4000000 in
theorem RSure_any (kd kr d g n : Nat) (rs : List RW) (w0 w : World) (Ps : List Pr) (h : Grommet.Own w0 w Ps) (hD : RD Ps kd kr d g n rs) :
    Calls Try.prog 30 #[ptr d] w fun e w' => ∃ ad cp, e = .returned (.slice ad n cp) ∧ Grommet.Own w0 w' (Ps ++ [rowP 32 1 (.slice ad n cp) n ((colS (·.sure) rs n).map wv)]) := by
  have HD := Lib.hid hD
  have hf := hD.few
  have HO := Lib.hid h
  have h0 : Hid (w.ownsRow w.heap.size 32 1 (.slice none 0 0) 0 ((colS (·.sure) rs 0).map wv)) := Lib.hid (World.ownsRow_nil _ _ _ _)
  unfold ptr
  clear h hD
  go_enter Try.func30, Try.ntmps30
  go_wp2_with fail
  go_loopw [4, 3] (fun s c wr => ∃ (t : Nat) (ad : Option Addr) (cp : Nat), t ≤ n ∧ s = .int .i64 (t : Int) ∧ c = .slice ad t cp ∧ Hid (wr.ownsRow w.heap.size 32 1 (.slice ad t cp) t ((colS (·.sure) rs t).map wv)) ∧ Hid (w.grownBy wr none)) (fun s _ _ => n - (intOf s).toNat)
  case atStart => exact ⟨0, none, 0, Nat.zero_le _, rfl, rfl, h0, Lib.hid (World.grownBy.refl _ _)⟩
  case round =>
    clear h0
    obtain ⟨t, ad, cp, htn', rfl, rfl, hrow, hg⟩ := hrel
    have hO := HO.out.quiet hg.out
    have c0 := HD.out.dev hO
    have t0 : (0 : Int) ≤ (t : Int) := by omega
    by_cases hlt : t < n
    · have hlt' : (t : Int) < (n : Int) := by omega
      have htn : t < rs.length := by rw [HD.out.len]; omega
      have wt : IntKind.i64.wrap ((t : Int) + 1) = (t : Int) + 1 := IntWalk.i64_in _ ⟨by omega, by omega⟩
      obtain ⟨r, hr⟩ : ∃ r, rs[t]? = some r := ⟨rs[t], List.getElem?_eq_getElem htn⟩
      obtain ⟨f0, f1, _⟩ := HD.out.get hO hr
      obtain ⟨u, hu⟩ : ∃ u, r.sure = u := ⟨_, rfl⟩
      rw [hu] at f0
      have Hnx : Hid (colS (·.sure) rs t ++ [u] = colS (·.sure) rs (t + 1)) := Lib.hid (by rw [← hu]; exact colS_snoc (·.sure) rs t r hr)
      obtain ⟨xs, hxs⟩ : ∃ xs, colS (·.sure) rs t = xs := ⟨_, rfl⟩
      rw [hxs] at hrow Hnx
      clear hxs
      have hbl := hrow.out.lt
      clear hr hu hO f1
      go_wp2_with (at_builtin; refine app64P rfl _ _ rfl w.heap.size _ t xs rfl (hrow.out.alloc _) ⟨wr.heap.size, 0, none⟩ 1 1 [u] rfl rfl (at_of_row (heap_alloc_new wr _)) ?a2 ?a3 ?_)
      case a2 => omega
      case a3 => have := hg.out.size; simp; omega
      intro ad2 cp2 w2 hrow2 hg2
      have hrow2 : w2.ownsRow w.heap.size 32 1 (.slice ad2 (t + 1) cp2) (t + 1) ((colS (·.sure) rs (t + 1)).map wv) := by rw [← Hnx.out]; simpa using hrow2
      have Hrow2 := Lib.hid hrow2
      have Hg2 := Lib.hid (grown_new hg.out (grown_trans (World.grownBy_alloc wr _ _) hg2) (fun i hi => (hbl i hi).1))
      clear hrow hrow2 hg hg2 hbl
      go_wp2
      go_roundw
      case rel => exact ⟨t + 1, ad2, cp2, by omega, by go_num, rfl, Hrow2, Hg2⟩
      case measure => simp [intOf]; omega
    · have hlt' : ¬ (t : Int) < (n : Int) := by omega
      obtain rfl : t = n := by omega
      have hr2 := hrow.out
      have hfin := Lib.hid (HO.out.addRow hr2 hg.out)
      clear hrow hr2 hO
      go_wp2
      go_ret
      exact ⟨ad, cp, rfl, hfin.out⟩

set_option maxRecDepth 100000 in
set_option maxHeartbeats 4000000 in
theorem RSeen_any (kd kr d g n : Nat) (rs : List RW) (w0 w : World) (Ps : List Pr) (h : Grommet.Own w0 w Ps) (hD : RD Ps kd kr d g n rs) :
    Calls Try.prog 32 #[ptr d] w fun e w' => ∃ ad cp, e = .returned (.slice ad n cp) ∧ Grommet.Own w0 w' (Ps ++ [rowP 32 1 (.slice ad n cp) n ((colS (·.seen) rs n).map wv)]) := by
  have HD := Lib.hid hD
  have hf := hD.few
  have HO := Lib.hid h
  have h0 : Hid (w.ownsRow w.heap.size 32 1 (.slice none 0 0) 0 ((colS (·.seen) rs 0).map wv)) := Lib.hid (World.ownsRow_nil _ _ _ _)
  unfold ptr
  clear h hD
  go_enter Try.func32, Try.ntmps32
  go_wp2_with fail
  go_loopw [4, 3] (fun s c wr => ∃ (t : Nat) (ad : Option Addr) (cp : Nat), t ≤ n ∧ s = .int .i64 (t : Int) ∧ c = .slice ad t cp ∧ Hid (wr.ownsRow w.heap.size 32 1 (.slice ad t cp) t ((colS (·.seen) rs t).map wv)) ∧ Hid (w.grownBy wr none)) (fun s _ _ => n - (intOf s).toNat)
  case atStart => exact ⟨0, none, 0, Nat.zero_le _, rfl, rfl, h0, Lib.hid (World.grownBy.refl _ _)⟩
  case round =>
    clear h0
    obtain ⟨t, ad, cp, htn', rfl, rfl, hrow, hg⟩ := hrel
    have hO := HO.out.quiet hg.out
    have c0 := HD.out.dev hO
    have t0 : (0 : Int) ≤ (t : Int) := by omega
    by_cases hlt : t < n
    · have hlt' : (t : Int) < (n : Int) := by omega
      have htn : t < rs.length := by rw [HD.out.len]; omega
      have wt : IntKind.i64.wrap ((t : Int) + 1) = (t : Int) + 1 := IntWalk.i64_in _ ⟨by omega, by omega⟩
      obtain ⟨r, hr⟩ : ∃ r, rs[t]? = some r := ⟨rs[t], List.getElem?_eq_getElem htn⟩
      obtain ⟨f0, f1, _⟩ := HD.out.get hO hr
      obtain ⟨u, hu⟩ : ∃ u, r.seen = u := ⟨_, rfl⟩
      rw [hu] at f1
      have Hnx : Hid (colS (·.seen) rs t ++ [u] = colS (·.seen) rs (t + 1)) := Lib.hid (by rw [← hu]; exact colS_snoc (·.seen) rs t r hr)
      obtain ⟨xs, hxs⟩ : ∃ xs, colS (·.seen) rs t = xs := ⟨_, rfl⟩
      rw [hxs] at hrow Hnx
      clear hxs
      have hbl := hrow.out.lt
      clear hr hu hO f0
      go_wp2_with (at_builtin; refine app64P rfl _ _ rfl w.heap.size _ t xs rfl (hrow.out.alloc _) ⟨wr.heap.size, 0, none⟩ 1 1 [u] rfl rfl (at_of_row (heap_alloc_new wr _)) ?a2 ?a3 ?_)
      case a2 => omega
      case a3 => have := hg.out.size; simp; omega
      intro ad2 cp2 w2 hrow2 hg2
      have hrow2 : w2.ownsRow w.heap.size 32 1 (.slice ad2 (t + 1) cp2) (t + 1) ((colS (·.seen) rs (t + 1)).map wv) := by rw [← Hnx.out]; simpa using hrow2
      have Hrow2 := Lib.hid hrow2
      have Hg2 := Lib.hid (grown_new hg.out (grown_trans (World.grownBy_alloc wr _ _) hg2) (fun i hi => (hbl i hi).1))
      clear hrow hrow2 hg hg2 hbl
      go_wp2
      go_roundw
      case rel => exact ⟨t + 1, ad2, cp2, by omega, by go_num, rfl, Hrow2, Hg2⟩
      case measure => simp [intOf]; omega
    · have hlt' : ¬ (t : Int) < (n : Int) := by omega
      obtain rfl : t = n := by omega
      have hr2 := hrow.out
      have hfin := Lib.hid (HO.out.addRow hr2 hg.out)
      clear hrow hr2 hO
      go_wp2
      go_ret
      exact ⟨ad, cp, rfl, hfin.out⟩
end Go.Proofs.Ytimihchklecabaa
