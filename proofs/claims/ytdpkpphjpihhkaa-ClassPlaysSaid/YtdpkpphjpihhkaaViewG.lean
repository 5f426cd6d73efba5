/- The document's view: Get, Put, Flat, Apply, Same. -/
import Derived.Test.YtdpkpphjpihhkaaViewF
-- OPTIONAL
namespace Go.Proofs.Ytdpkpphjpihhkaa
open Go.RowKit Go.Grommet

set_option maxRecDepth 100000 in
set_option maxHeartbeats 1000000 in
theorem RefGet_any (g : Nat) (F : Nat → Prop) (xs : List Nat) (L : List (Nat × Nat)) (b : Bool) (a : Int) (w : World) (h : RefIs w g F xs L b) :
    Calls Try.prog 68 #[.pointer (some ⟨g, 0, none⟩), .int .i64 a] w fun e w' => e = .returned (.int .u64 (gotI xs L a : Int)) ∧ w = w' := by
  by_cases h0 : 0 ≤ a
  · obtain ⟨n, rfl⟩ := Int.eq_ofNat_of_zero_le h0
    have HF := Lib.hid (find_any g F xs L b n w h)
    obtain ⟨vi, vl, h⟩ := h
    obtain ⟨c0, c1, c2⟩ := h.cells
    obtain ⟨ad, cap, rfl, _⟩ := row_slice h.words
    obtain ⟨z, Hz⟩ : ∃ z, Hid (z = xs.length) := ⟨_, Lib.hid rfl⟩
    have hfit := h.fits
    rw [← Hz.out] at c0 hfit
    by_cases hn : n < z
    · have HG := Lib.hid (show gotI xs L (n : Int) = gotV xs L n by unfold gotI; rw [if_pos ⟨h0, by rw [Hz.out] at hn; omega⟩, Int.toNat_natCast])
      have hn' : ¬ (z : Int) ≤ (n : Int) := by omega
      have hn0 : ¬ (n : Int) < 0 := by omega
      cases hfi : fidx L n with
      | some i =>
        obtain ⟨hi1, hi2, _⟩ := fidx_some hfi
        rw [show fidI L (n : Int) = (i : Int) by unfold fidI; rw [if_pos h0, Int.toNat_natCast, hfi]] at HF
        have HV := Lib.hid (show gotV xs L n = (L.getD i (0, 0)).2 by unfold gotV; rw [hfi])
        obtain ⟨ad2, cap2, rfl, _⟩ := row_slice h.writes
        obtain ⟨q, rfl, v0, v1, _, hcap, _⟩ := wr_cell h.writes rfl i hi1
        obtain ⟨U, HU⟩ : ∃ U, Hid (U = (L.getD i (0, 0)).2) := ⟨_, Lib.hid rfl⟩
        rw [← HU.out] at v1 HV
        obtain ⟨m, Hm⟩ : ∃ m, Hid (m = L.length) := ⟨_, Lib.hid rfl⟩
        rw [← Hm.out] at hi1 c1
        have hi0 : (0 : Int) ≤ (i : Int) := by omega
        have hms : m ≤ 96 := by rw [Hm.out]; exact h.good.few
        clear h hfi hi2 hcap v0
        go_enter Try.func68, Try.ntmps68
        go_wp2_with fail
        refine HF.out.mono ?_
        rintro e w1 ⟨rfl, rfl⟩
        clear HF
        go_wp2
        go_ret
        exact ⟨by rw [HG.out, HV.out]; rfl, rfl⟩
      | none =>
        rw [show fidI L (n : Int) = -1 by unfold fidI; rw [if_pos h0, Int.toNat_natCast, hfi]] at HF
        have HV := Lib.hid (show gotV xs L n = xs.getD n 0 by unfold gotV; rw [hfi])
        have hrow := h.words
        rw [← Hz.out] at hrow
        obtain ⟨q, rfl, v0, _, hcap, _⟩ := wd_cell hrow Hz.out.symm n hn
        obtain ⟨U, HU⟩ : ∃ U, Hid (U = xs.getD n 0) := ⟨_, Lib.hid rfl⟩
        rw [← HU.out] at v0 HV
        clear h hfi hcap hrow
        go_enter Try.func68, Try.ntmps68
        go_wp2_with fail
        refine HF.out.mono ?_
        rintro e w1 ⟨rfl, rfl⟩
        clear HF
        go_wp2
        go_ret
        exact ⟨by rw [HG.out, HV.out]; rfl, rfl⟩
    · have HG := Lib.hid (show gotI xs L (n : Int) = 0 by unfold gotI; rw [if_neg (by rw [Hz.out] at hn; omega)])
      have hn' : (z : Int) ≤ (n : Int) := by omega
      have hn0 : ¬ (n : Int) < 0 := by omega
      clear h HF
      go_enter Try.func68, Try.ntmps68
      go_wp2
      go_ret
      exact ⟨by rw [HG.out]; rfl, rfl⟩
  · have HG := Lib.hid (show gotI xs L a = 0 by unfold gotI; rw [if_neg (by omega)])
    have h1 : a < 0 := by omega
    clear h0 h
    go_enter Try.func68, Try.ntmps68
    go_wp2
    go_ret
    exact ⟨by rw [HG.out]; rfl, rfl⟩

def putM (xs : List Nat) (L : List (Nat × Nat)) (a : Int) (b : Bool) : Bool := b || (decide (0 ≤ a ∧ a < (xs.length : Int)) && (fidx L a.toNat).isNone && decide (96 ≤ L.length))
def RefDoes (g : Nat) (F : Nat → Prop) (w w' : World) (xs : List Nat) (L : List (Nat × Nat)) (b : Bool) : Prop := ∃ F', RefIs w' g F' xs L b ∧ (∀ i, F' i → F i ∨ w.heap.size ≤ i) ∧ Turn F w w'
def RefPutIs (g : Nat) (F : Nat → Prop) (xs : List Nat) (L : List (Nat × Nat)) (b : Bool) (a : Int) (v : Nat) (w : World) (e : Ending) (w' : World) : Prop :=
  e = .returned (.int .i64 (putEI xs L a : Int)) ∧ RefDoes g F w w' xs (putI xs L a v) (putM xs L a b)
set_option maxRecDepth 100000 in
theorem RefDoes.same {g : Nat} {F : Nat → Prop} {xs : List Nat} {L : List (Nat × Nat)} {b : Bool} {w : World} (h : RefIs w g F xs L b) : RefDoes g F w w xs L b := ⟨F, h, fun _ hi => .inl hi, Turn.refl _ _⟩

set_option maxRecDepth 100000 in
theorem ref_store {w : World} {g : Nat} {F : Nat → Prop} {m cap q i n v : Nat} {vi : Value} {xs : List Nat} {L : List (Nat × Nat)} {b : Bool} (h : RefAt w g F vi (.slice (some ⟨q, 0, none⟩) m cap) xs L b) (hm : m = L.length) (hfi : fidx L n = some i) (hn : n < xs.length) (hv : v < 18446744073709551616) :
    RefDoes g F w (w.setCell ⟨q, i * 2 + 1, none⟩ (.int .u64 (v : Int))) xs (L.set i (n, v)) b := by
  obtain ⟨hi1, hi2, _⟩ := fidx_some hfi
  have hap := h.apart
  have t0 : Turn (fun k => k = q) w (w.setCell ⟨q, i * 2 + 1, none⟩ (.int .u64 (v : Int))) := Turn.of (grown_setCell _ _ _) (fun k e => by cases e; rfl)
  have hL : putL L n v = L.set i (n, v) := by unfold putL; rw [hfi]
  refine ⟨F, ⟨vi, .slice (some ⟨q, 0, none⟩) m cap, ⟨t0.obj h.obj (fun e => (hap.2.1 q rfl) e.symm), t0.row h.words (fun k hk e => hap.2.2 k q hk rfl e), ?_, h.small, h.fits, ?_, fun k hk => ?_, h.fg, h.fw, h.fr⟩⟩, fun k hk => .inl hk, t0.mono (fun k e => by subst e; exact .inl (h.fr _ rfl))⟩
  · subst hm
    have := row_put h.writes (i * 2 + 1) (.int .u64 (v : Int))
    rw [wcells_set L i n v hi1 hi2] at this
    simpa using this
  · rw [← hL]; exact h.good.put hn hv
  · exact Nat.lt_of_lt_of_le (h.old k hk) t0.size

set_option maxRecDepth 100000 in
theorem ref_append {w w2 : World} {g : Nat} {F : Nat → Prop} {n v : Nat} {vi vl vl' : Value} {xs : List Nat} {L : List (Nat × Nat)} {b : Bool} (h : RefAt w g F vi vl xs L b) (hfi : fidx L n = none) (hn : n < xs.length) (hv : v < 18446744073709551616) (hl : L.length < 96)
    (hrow : w2.ownsRow 0 79 2 vl' (L.length + 1) (wcells (L ++ [(n, v)]))) (hg2 : w.grownBy w2 vl.ownBlock) (hnew : ∀ i, vl'.ownBlock = some i → vl.ownBlock = some i ∨ w.heap.size ≤ i) :
    RefDoes g F w (w2.setCell ⟨g, 1, none⟩ vl') xs (L ++ [(n, v)]) b := by
  have hap := h.apart
  have hL : putL L n v = L ++ [(n, v)] := by unfold putL; rw [hfi]; simp; omega
  have t2 : Turn (fun k => vl.ownBlock = some k) w w2 := Turn.of hg2 (fun k e => e)
  have t3 : Turn (fun k => vl.ownBlock = some k ∨ k = g) w (w2.setCell ⟨g, 1, none⟩ vl') := (t2.mono (fun k e => .inl (.inl e))).grown (grown_setCell _ _ _) (fun k e => by cases e; exact .inl (.inr rfl))
  have hgn : ∀ k, vl'.ownBlock = some k → k ≠ g := fun k hk => by
    rcases hnew k hk with e | e
    · exact hap.2.1 k e
    · have := h.old _ h.fg; omega
  have ht : Turn F w (w2.setCell ⟨g, 1, none⟩ vl') := t3.mono (fun k e => .inl (by
    rcases e with e | rfl
    · exact h.fr _ e
    · exact h.fg))
  have hob2 : w2.heap[g]? = some (.cells [vi, vl, .bool b].toArray 44 (0, 0)) := t2.obj h.obj (fun e => (hap.2.1 _ e) rfl)
  refine ⟨fun k => F k ∨ w.heap.size ≤ k ∧ k < (w2.setCell ⟨g, 1, none⟩ vl').heap.size, ⟨vi, vl', ⟨row_set hob2 1 vl', t3.row h.words (fun k hk e => ?_), ?_, h.small, h.fits, ?_, fun k hk => ?_, .inl h.fg, fun k hk => .inl (h.fw k hk), fun k hk => ?_⟩⟩, fun k hk => hk.imp id (fun x => x.1), ht⟩
  · rcases e with e | rfl
    · exact hap.2.2 _ _ hk e rfl
    · exact (hap.1 _ hk) rfl
  · rw [List.length_append]
    exact hrow.kept (grown_setCell _ _ _) (by
      cases hw : vl'.ownBlock with
      | none => exact .inl rfl
      | some k => exact .inr (fun e => by injection e with e; exact (hgn k hw) e))
  · rw [← hL]; exact h.good.put hn hv
  · rcases hk with hk | hk
    · exact Nat.lt_of_lt_of_le (h.old k hk) ht.size
    · exact hk.2
  · rcases hnew k hk with e | e
    · exact .inl (h.fr k e)
    · refine .inr ⟨e, ?_⟩
      have := row_old hrow k hk
      simpa [World.setCell] using this

set_option maxRecDepth 100000 in
theorem ref_many {w : World} {g : Nat} {F : Nat → Prop} {vi vl : Value} {xs : List Nat} {L : List (Nat × Nat)} {b : Bool} (h : RefAt w g F vi vl xs L b) : RefDoes g F w (w.setCell ⟨g, 2, none⟩ (.bool true)) xs L true := by
  have hap := h.apart
  have t0 : Turn (fun k => k = g) w (w.setCell ⟨g, 2, none⟩ (.bool true)) := Turn.of (grown_setCell _ _ _) (fun k e => by cases e; rfl)
  have ho : w.heap[g]? = some (.cells [vi, vl, .bool b].toArray 44 (0, 0)) := h.obj
  exact ⟨F, ⟨vi, vl, ⟨row_set ho 2 (.bool true), t0.row h.words (fun k hk e => hap.1 k hk e), t0.row h.writes (fun k hk e => hap.2.1 k hk e), h.small, h.fits, h.good, fun k hk => Nat.lt_of_lt_of_le (h.old k hk) t0.size, h.fg, h.fw, h.fr⟩⟩, fun k hk => .inl hk, t0.mono (fun k e => by subst e; exact .inl h.fg)⟩

set_option maxRecDepth 100000 in
set_option maxHeartbeats 2000000 in
theorem RefPut_any (g : Nat) (F : Nat → Prop) (xs : List Nat) (L : List (Nat × Nat)) (b : Bool) (a : Int) (v : Nat) (w : World) (h : RefIs w g F xs L b) (hv : v < 18446744073709551616) :
    Calls Try.prog 78 #[.pointer (some ⟨g, 0, none⟩), .int .i64 a, .int .u64 (v : Int)] w (RefPutIs g F xs L b a v w) := by
  have hsame := RefDoes.same h
  by_cases h0 : 0 ≤ a
  · obtain ⟨n, rfl⟩ := Int.eq_ofNat_of_zero_le h0
    have HF := Lib.hid (find_any g F xs L b n w h)
    obtain ⟨vi, vl, h⟩ := h
    obtain ⟨c0, c1, c2⟩ := h.cells
    obtain ⟨ad, cap, rfl, _⟩ := row_slice h.words
    obtain ⟨z, Hz⟩ : ∃ z, Hid (z = xs.length) := ⟨_, Lib.hid rfl⟩
    have hfit := h.fits
    rw [← Hz.out] at c0 hfit
    by_cases hn : n < z
    · have hin : 0 ≤ (n : Int) ∧ (n : Int) < (xs.length : Int) := ⟨h0, by rw [Hz.out] at hn; omega⟩
      have hnx : n < xs.length := by rw [Hz.out] at hn; exact hn
      have hn' : ¬ (z : Int) ≤ (n : Int) := by omega
      have hn0 : ¬ (n : Int) < 0 := by omega
      cases hfi : fidx L n with
      | some i =>
        obtain ⟨hi1, hi2, _⟩ := fidx_some hfi
        rw [show fidI L (n : Int) = (i : Int) by unfold fidI; rw [if_pos h0, Int.toNat_natCast, hfi]] at HF
        obtain ⟨ad2, cap2, rfl, hcl⟩ := row_slice h.writes
        clear hcl
        obtain ⟨q, rfl, v0, v1, fz, hcap, _⟩ := wr_cell h.writes rfl i hi1
        have HR : RefPutIs g F xs L b (n : Int) v w (.returned (.int .i64 0)) (w.setCell ⟨q, i * 2 + 1, none⟩ (.int .u64 (v : Int))) := by
          unfold RefPutIs putEI putI putM
          rw [if_pos hin, if_pos hin, Int.toNat_natCast]
          unfold putE putL
          rw [hfi]
          refine ⟨rfl, ?_⟩
          have := ref_store h rfl hfi hnx hv
          simpa using this
        replace HR := Lib.hid HR
        generalize (L.getD i (0, 0)).2 = U at v1
        obtain ⟨m, Hm⟩ : ∃ m, Hid (m = L.length) := ⟨_, Lib.hid rfl⟩
        rw [← Hm.out] at hi1 c1
        have hi0 : (0 : Int) ≤ (i : Int) := by omega
        have hms : m ≤ 96 := by rw [Hm.out]; exact h.good.few
        clear h hfi hi2 hcap v0 hsame hin
        go_enter Try.func78, Try.ntmps78
        go_wp2_with fail
        refine HF.out.mono ?_
        rintro e w1 ⟨rfl, rfl⟩
        clear HF
        go_wp2
        go_ret
        exact HR.out
      | none =>
        rw [show fidI L (n : Int) = -1 by unfold fidI; rw [if_pos h0, Int.toNat_natCast, hfi]] at HF
        obtain ⟨ad2, cap2, rfl, hcl⟩ := row_slice h.writes
        clear hcl
        obtain ⟨m, Hm⟩ : ∃ m, Hid (m = L.length) := ⟨_, Lib.hid rfl⟩
        by_cases hfull : 96 ≤ m
        · have HR : RefPutIs g F xs L b (n : Int) v w (.returned (.int .i64 5)) (w.setCell ⟨g, 2, none⟩ (.bool true)) := by
            unfold RefPutIs putEI putI putM
            rw [if_pos hin, if_pos hin, Int.toNat_natCast]
            unfold putE putL
            rw [hfi]
            simp only
            rw [Hm.out] at hfull
            rw [if_pos hfull, if_pos hfull]
            refine ⟨rfl, ?_⟩
            have := ref_many h
            have hb : (b || (decide (0 ≤ (n : Int) ∧ (n : Int) < (xs.length : Int)) && (none : Option Nat).isNone && decide (96 ≤ L.length))) = true := by
              rw [decide_eq_true hin, decide_eq_true hfull]; simp
            rw [hb]
            exact this
          replace HR := Lib.hid HR
          have hfull' : (96 : Int) ≤ (m : Int) := by omega
          have fz : w.frozen? ⟨g, 2, none⟩ = false := by
            have := h.obj
            simp [World.frozen?, this]
          rw [← Hm.out] at c1
          clear h hfi hsame hin
          go_enter Try.func78, Try.ntmps78
          go_wp2_with fail
          refine HF.out.mono ?_
          rintro e w1 ⟨rfl, rfl⟩
          clear HF
          go_wp2
          go_ret
          exact HR.out
        · have hfull' : ¬ (96 : Int) ≤ (m : Int) := by omega
          have HX : ∀ (w2 : World) (vl' : Value), w2.ownsRow 0 79 2 vl' (m + 1) (wcells (L ++ [(n, v)])) → w.grownBy w2 (Value.slice ad2 m cap2).ownBlock → (∀ i, vl'.ownBlock = some i → (Value.slice ad2 m cap2).ownBlock = some i ∨ w.heap.size ≤ i) →
              RefPutIs g F xs L b (n : Int) v w (.returned (.int .i64 0)) (w2.setCell ⟨g, 1, none⟩ vl') := by
            intro w2 vl' hrow hg2 hnew
            rw [Hm.out] at hrow hg2 hnew hfull
            unfold RefPutIs putEI putI putM
            rw [if_pos hin, if_pos hin, Int.toNat_natCast]
            unfold putE putL
            rw [hfi]
            simp only
            rw [if_neg hfull, if_neg hfull]
            refine ⟨rfl, ?_⟩
            have := ref_append h hfi hnx hv (by omega) hrow hg2 hnew
            rw [decide_eq_false hfull, Bool.and_false, Bool.or_false]
            exact this
          replace HX := Lib.hid HX
          have hrow0 := h.writes
          have hap := h.apart
          have hob := h.obj
          rw [← Hm.out] at c1 hrow0 hob hap
          clear h hfi hsame hin
          go_enter Try.func78, Try.ntmps78
          go_wp2_with fail
          refine HF.out.mono ?_
          rintro e w1 ⟨rfl, rfl⟩
          clear HF
          go_wp2_with (at_builtin; refine appW rfl _ _ rfl 0 _ m L rfl (hrow0.alloc _) ⟨w.heap.size, 0, none⟩ 1 1 [(n, v)] rfl rfl (at_of_row (heap_alloc_new w _)) ?a2 (Nat.zero_le _) ?_)
          case a2 => omega
          intro ad3 cap3 w2 hrow2 hg2 hnew2
          have hg2' : w.grownBy w2 (Value.slice ad2 m cap2).ownBlock := grown_trans (World.grownBy_alloc w _ _) hg2
          have hF := HX.out w2 _ hrow2 hg2' (fun i hi => by
            rcases hnew2 i hi with e | e
            · exact .inl e
            · have e' : w.heap.size + 1 ≤ i := by simpa using e
              exact .inr (by omega))
          have hob2 : w2.heap[g]? = some (.cells [.slice ad z cap, .slice ad2 m cap2, .bool b].toArray 44 (0, 0)) := by
            have := (hg2'.block g (lt_of_block hob) (by intro e; exact (hap.2.1 g e.symm) rfl)).trans hob
            rw [← Hz.out] at this
            exact this
          have d2 := row_cell hob2 1 _ rfl
          have df2 := row_free hob2 1
          replace hF := Lib.hid hF
          clear HX hob hob2 hrow2 hg2 hg2' hnew2 hrow0
          go_wp2
          go_ret
          exact hF.out
    · have HR : RefPutIs g F xs L b (n : Int) v w (.returned (.int .i64 8)) w := by
        have hin : ¬ (0 ≤ (n : Int) ∧ (n : Int) < (xs.length : Int)) := by rw [Hz.out] at hn; omega
        unfold RefPutIs putEI putI putM
        rw [if_neg hin, if_neg hin, decide_eq_false hin]
        refine ⟨rfl, ?_⟩
        simpa using hsame
      replace HR := Lib.hid HR
      have hn' : (z : Int) ≤ (n : Int) := by omega
      have hn0 : ¬ (n : Int) < 0 := by omega
      clear h HF hsame
      go_enter Try.func78, Try.ntmps78
      go_wp2
      go_ret
      exact HR.out
  · have HR : RefPutIs g F xs L b a v w (.returned (.int .i64 8)) w := by
      have hin : ¬ (0 ≤ a ∧ a < (xs.length : Int)) := by omega
      unfold RefPutIs putEI putI putM
      rw [if_neg hin, if_neg hin, decide_eq_false hin]
      refine ⟨rfl, ?_⟩
      simpa using hsame
    replace HR := Lib.hid HR
    have h1 : a < 0 := by omega
    clear h0 h hsame
    go_enter Try.func78, Try.ntmps78
    go_wp2
    go_ret
    exact HR.out
end Go.Proofs.Ytdpkpphjpihhkaa
