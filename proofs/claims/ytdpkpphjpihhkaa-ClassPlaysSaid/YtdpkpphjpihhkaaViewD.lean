/- Package view: Put. -/
import Derived.Test.YtdpkpphjpihhkaaViewC
namespace Go.Proofs.Ytdpkpphjpihhkaa
open Go.RowKit Go.Grommet

set_option maxRecDepth 100000 in
theorem row_put {w : World} {base e size n cap b : Nat} {xs : List Value} (h : w.ownsRow base e size (.slice (some ⟨b, 0, none⟩) n cap) n xs) (o : Nat) (u : Value) :
    (w.setCell ⟨b, o, none⟩ u).ownsRow base e size (.slice (some ⟨b, 0, none⟩) n cap) n (xs.set o u) := by
  obtain ⟨hl, h | ⟨g, cap', cur, he, hb, hh, hn, hm, hc, htk⟩⟩ := h
  · cases h.1
  · cases he
    refine ⟨by simpa using hl, .inr ⟨b, cap, cur.setIfInBounds o u, rfl, hb, heap_setCell_at hh u, hn, hm, by simpa using hc, ?_⟩⟩
    rw [Array.toList_setIfInBounds, List.take_set, htk]

def putI (xs : List Nat) (L : List (Nat × Nat)) (a : Int) (v : Nat) : List (Nat × Nat) := if 0 ≤ a ∧ a < (xs.length : Int) then putL L a.toNat v else L
def putEI (xs : List Nat) (L : List (Nat × Nat)) (a : Int) : Nat := if 0 ≤ a ∧ a < (xs.length : Int) then putE L a.toNat else 8
def PutIs (g : Nat) (F : Nat → Prop) (xs : List Nat) (L : List (Nat × Nat)) (a : Int) (v : Nat) (w : World) (e : Ending) (w' : World) : Prop :=
  e = .returned (.int .i64 (putEI xs L a : Int)) ∧ Does g F w w' xs (putI xs L a v)

set_option maxRecDepth 100000 in
theorem Does.same {g : Nat} {F : Nat → Prop} {xs : List Nat} {L : List (Nat × Nat)} {w : World} (h : ViewIs w g F xs L) : Does g F w w xs L := ⟨F, h, fun _ hi => .inl hi, Turn.refl _ _⟩

set_option maxRecDepth 100000 in
theorem Does.drew {g : Nat} {F : Nat → Prop} {xs : List Nat} {L : List (Nat × Nat)} {w w' : World} {n : Nat} (h : Does g F (w.drewN n) w' xs L) : Does g F w w' xs L := by
  obtain ⟨F', h1, h2, h3⟩ := h
  exact ⟨F', h1, h2, ⟨h3.os, h3.tape, h3.output, h3.size, h3.block⟩⟩

/-- A write that was there is turned. -/
theorem did_store {w : World} {g : Nat} {F : Nat → Prop} {mb m cap b i n v : Nat} {ws : Value} {xs : List Nat} {L : List (Nat × Nat)} (h : ViewAt w g F ws (.slice (some ⟨b, 0, none⟩) m cap) mb xs L) (hm : m = L.length) (hfi : fidx L n = some i) (hn : n < xs.length) (hv : v < 18446744073709551616) :
    Does g F w (w.setCell ⟨b, i * 2 + 1, none⟩ (.int .u64 (v : Int))) xs (L.set i (n, v)) := by
  obtain ⟨hi1, hi2, _⟩ := fidx_some hfi
  have hap := h.apart
  have t0 : Turn (fun k => k = b) w (w.setCell ⟨b, i * 2 + 1, none⟩ (.int .u64 (v : Int))) := Turn.of (grown_setCell _ _ _) (fun k e => by cases e; rfl)
  have hL : putL L n v = L.set i (n, v) := by unfold putL; rw [hfi]
  refine ⟨F, ⟨ws, .slice (some ⟨b, 0, none⟩) m cap, mb, ⟨t0.obj h.obj (fun e => (hap.2.2.1 b rfl).1 e.symm), t0.row h.words (fun k hk e => hap.2.2.2 k b hk rfl e), ?_, ?_, h.small, h.fits, ?_, fun k hk => ?_, h.fg, h.fm, h.fw, h.fr⟩⟩, fun k hk => .inl hk, t0.mono (fun k e => by subst e; exact .inl (h.fr _ rfl))⟩
  · subst hm
    have := row_put h.writes (i * 2 + 1) (.int .u64 (v : Int))
    rw [wcells_set L i n v hi1 hi2] at this
    simpa using this
  · obtain ⟨D, h1, h2⟩ := h.num
    refine ⟨D, ?_, fun a ha => by rw [fidx_set hi2]; exact h2 a ha⟩
    rw [List.length_set]
    exact t0.map h1 (fun e => (hap.2.2.1 b rfl).2 e.symm)
  · rw [← hL]; exact h.good.put hn hv
  · exact Nat.lt_of_lt_of_le (h.old k hk) t0.size

/-- A write that is new. -/
theorem did_append {w w1 w2 : World} {g : Nat} {F : Nat → Prop} {mb n v : Nat} {ws wr wr' : Value} {xs : List Nat} {L : List (Nat × Nat)} {D : DataW Unit} (h : ViewAt w g F ws wr mb xs L) (hfi : fidx L n = none) (hn : n < xs.length) (hv : v < 18446744073709551616) (hl : L.length < 96)
    (hD : ∀ a, a < 140737488355328 → (∀ i, fidx L a = some i → Maps.has D (ik a) = true ∧ D.atKey (ik a) (.lit (.int .i64 0)) = .lit (.int .i64 (i : Int))) ∧ (fidx L a = none → Maps.has D (ik a) = false))
    (hmap : w1.ownsMap Try.prog 3 (plainElem Try.prog 3) mb (L.length + 1) (D.put (ik n) (.lit (.int .i64 (L.length : Int))))) (hisMap : Maps.IsMap D) (hg1 : w.grownBy w1 (some mb))
    (hrow : w2.ownsRow 0 79 2 wr' (L.length + 1) (wcells (L ++ [(n, v)]))) (hg2 : w1.grownBy w2 wr.ownBlock) (hnew : ∀ i, wr'.ownBlock = some i → wr.ownBlock = some i ∨ w.heap.size ≤ i) :
    Does g F w (w2.setCell ⟨g, 1, none⟩ wr') xs (L ++ [(n, v)]) := by
  have hap := h.apart
  have hL : putL L n v = L ++ [(n, v)] := by unfold putL; rw [hfi]; simp; omega
  have t1 : Turn (fun k => k = mb) w w1 := Turn.of hg1 (fun k e => by cases e; rfl)
  have t2 : Turn (fun k => k = mb ∨ wr.ownBlock = some k) w w2 := (t1.mono (fun k e => .inl (.inl e))).grown hg2 (fun k e => .inl (.inr e))
  have t3 : Turn (fun k => k = mb ∨ wr.ownBlock = some k ∨ k = g) w (w2.setCell ⟨g, 1, none⟩ wr') := (t2.mono (fun k e => .inl (by rcases e with e | e; exact .inl e; exact .inr (.inl e)))).grown (grown_setCell _ _ _) (fun k e => by cases e; exact .inl (.inr (.inr rfl)))
  have hgn : ∀ k, wr'.ownBlock = some k → k ≠ g ∧ k ≠ mb := fun k hk => by
    rcases hnew k hk with e | e
    · exact hap.2.2.1 k e
    · have := h.old _ h.fg; have := h.old _ h.fm; omega
  have ht : Turn F w (w2.setCell ⟨g, 1, none⟩ wr') := t3.mono (fun k e => .inl (by
    rcases e with rfl | e | rfl
    · exact h.fm
    · exact h.fr _ e
    · exact h.fg))
  have hob2 : w2.heap[g]? = some (.cells [ws, wr, .map (some mb)].toArray 85 (0, 0)) := t2.obj h.obj (fun e => by
    rcases e with e | e
    · exact hap.1 e
    · exact (hap.2.2.1 _ e).1 rfl)
  refine ⟨fun k => F k ∨ w.heap.size ≤ k ∧ k < (w2.setCell ⟨g, 1, none⟩ wr').heap.size, ⟨ws, wr', mb, ⟨row_set hob2 1 wr', t3.row h.words (fun k hk e => ?_), ?_, ?_, h.small, h.fits, ?_, fun k hk => ?_, .inl h.fg, .inl h.fm, fun k hk => .inl (h.fw k hk), fun k hk => ?_⟩⟩, fun k hk => hk.imp id (fun x => x.1), ht⟩
  · rcases e with rfl | e | rfl
    · exact (hap.2.1 _ hk).2 rfl
    · exact hap.2.2.2 _ _ hk e rfl
    · exact (hap.2.1 _ hk).1 rfl
  · rw [List.length_append]
    exact hrow.kept (grown_setCell _ _ _) (by
      cases hw : wr'.ownBlock with
      | none => exact .inl rfl
      | some k => exact .inr (fun e => by injection e with e; exact (hgn k hw).1 e))
  · refine ⟨D.put (ik n) (.lit (.int .i64 (L.length : Int))), ?_, ?_⟩
    · rw [List.length_append]
      exact (hmap.kept hg2 (fun e => (hap.2.2.1 mb e.symm).2 rfl)).kept (grown_setCell _ _ _) (fun e => by injection e with e; exact hap.1 e.symm)
    · intro a ha
      obtain ⟨d1, d2⟩ := hD a ha
      rw [fidx_snoc]
      have hk : WideAt.IsKeyLit (ik n) := trivial
      by_cases hna : n = a
      · subst hna
        refine ⟨fun i hi => ?_, fun hi => ?_⟩
        · rw [hfi] at hi
          simp at hi
          subst hi
          exact ⟨Maps.has_put_same hisMap hk _, Maps.atKey_put_same hisMap hk _ _⟩
        · rw [hfi] at hi; simp at hi
      · have hne : ik a ≠ ik n := by unfold ik; intro e; injection e with _ e; omega
        rw [Maps.has_put_other hne, Maps.atKey_put_other hne]
        refine ⟨fun i hi => ?_, fun hi => ?_⟩
        · cases hx : fidx L a with
          | some j => rw [hx] at hi; simp at hi; subst hi; exact d1 j hx
          | none => rw [hx, if_neg hna] at hi; cases hi
        · cases hx : fidx L a with
          | some j => rw [hx] at hi; cases hi
          | none => exact d2 hx
  · rw [← hL]; exact h.good.put hn hv
  · rcases hk with hk | hk
    · exact Nat.lt_of_lt_of_le (h.old k hk) ht.size
    · exact hk.2
  · rcases hnew k hk with e | e
    · exact .inl (h.fr k e)
    · refine .inr ⟨e, ?_⟩
      have := row_old hrow k hk
      simpa [World.setCell] using this

set_option maxRecDepth 100000 in
set_option maxHeartbeats 2000000 in
theorem Put_any (g : Nat) (F : Nat → Prop) (xs : List Nat) (L : List (Nat × Nat)) (a : Int) (v : Nat) (w : World) (h : ViewIs w g F xs L) (hv : v < 18446744073709551616) :
    Calls Try.prog 33 #[.pointer (some ⟨g, 0, none⟩), .int .i64 a, .int .u64 (v : Int)] w (PutIs g F xs L a v w) := by
  have HL := Lib.hid (Len_any g F xs L w h)
  have HI := Lib.hid (isIn_any a xs.length w)
  have hsame := Does.same h
  obtain ⟨ws, wr, mb, h⟩ := h
  obtain ⟨c0, c1, c2⟩ := h.cells
  have hfit := h.fits
  by_cases hin : 0 ≤ a ∧ a < (xs.length : Int)
  · obtain ⟨n, rfl⟩ := Int.eq_ofNat_of_zero_le hin.1
    have hn : n < xs.length := by omega
    rw [show inB (n : Int) xs.length = true from by unfold inB; simp; omega] at HI
    obtain ⟨D, hown, hD⟩ := h.num
    obtain ⟨hD1, hD2⟩ := hD n (by omega)
    have hkey : keyOf Try.prog 3 (.int .i64 (n : Int)) = some (.int .i64 (n : Int)) := Maps.keyOf_int_mk Try.underlying3 (lit_ok n (by omega))
    cases hfi : fidx L n with
    | some i =>
      obtain ⟨hi1, hi2, _⟩ := fidx_some hfi
      obtain ⟨hh, hat0⟩ := hD1 i hfi
      unfold ik at hh hat0
      have Hat := Lib.hid hat0
      obtain ⟨ad, cap, rfl, hcl⟩ := row_slice h.writes
      clear hcl
      obtain ⟨b, rfl, v0, v1, fz, hcap, _⟩ := wr_cell h.writes rfl i hi1
      have HR : PutIs g F xs L (n : Int) v w (.returned (.int .i64 0)) (w.setCell ⟨b, i * 2 + 1, none⟩ (.int .u64 (v : Int))) := by
        unfold PutIs putEI putI
        rw [if_pos hin, if_pos hin, Int.toNat_natCast]
        unfold putE putL
        rw [hfi]
        exact ⟨rfl, did_store h rfl hfi hn hv⟩
      replace HR := Lib.hid HR
      generalize (L.getD i (0, 0)).2 = U at v1
      obtain ⟨m, Hm⟩ : ∃ m, Hid (m = L.length) := ⟨_, Lib.hid rfl⟩
      rw [← Hm.out] at hi1 c1 hown
      obtain ⟨z, Hz⟩ : ∃ z, Hid (z = xs.length) := ⟨_, Lib.hid rfl⟩
      rw [← Hz.out] at hn HL HI
      have hms : m ≤ 96 := by rw [Hm.out]; exact h.good.few
      clear h hD hD1 hD2 hfi hat0 hi2 hcap hsame hin
      go_enter Try.func33, Try.ntmps33
      go_wp2_with fail
      refine HL.out.mono ?_
      rintro e w1 ⟨rfl, rfl⟩
      go_wp2_with fail
      refine HI.out.mono ?_
      rintro e w1 ⟨rfl, rfl⟩
      clear HL HI
      go_wp2_with (at_lookup; refine wpList_lookup_own_ok_int _ rfl _ _ 83 rfl 3 3 .i64 keyedInt Try.underlying83 Try.underlying3 (Try.zeroValue3 _) mb m D rfl hown _ _ rfl hkey ?_)
      intro c hat hwc
      obtain rfl : c = (i : Int) := by rw [Hat.out] at hat; injection hat with hat; injection hat with _ hat; exact hat.symm
      clear hat hwc
      go_wp2
      go_ret
      exact HR.out
    | none =>
      have hh := hD2 hfi
      unfold ik at hh
      obtain ⟨ad, cap, rfl, hcl⟩ := row_slice h.writes
      clear hcl
      by_cases hfull : 96 ≤ L.length
      · have HR : PutIs g F xs L (n : Int) v w (.returned (.int .i64 5)) w := by
          unfold PutIs putEI putI
          rw [if_pos hin, if_pos hin, Int.toNat_natCast]
          unfold putE putL
          rw [hfi]
          simp only
          rw [if_pos hfull, if_pos hfull]
          exact ⟨rfl, hsame⟩
        replace HR := Lib.hid HR
        obtain ⟨m, Hm⟩ : ∃ m, Hid (m = L.length) := ⟨_, Lib.hid rfl⟩
        rw [← Hm.out] at c1 hown hfull
        obtain ⟨z, Hz⟩ : ∃ z, Hid (z = xs.length) := ⟨_, Lib.hid rfl⟩
        rw [← Hz.out] at hn HL HI
        have hfull' : (96 : Int) ≤ (m : Int) := by omega
        clear h hD hD1 hD2 hfi hsame hin
        go_enter Try.func33, Try.ntmps33
        go_wp2_with fail
        refine HL.out.mono ?_
        rintro e w1 ⟨rfl, rfl⟩
        go_wp2_with fail
        refine HI.out.mono ?_
        rintro e w1 ⟨rfl, rfl⟩
        clear HL HI
        go_wp2_with (at_lookup; refine wpList_lookup_own_ok_int _ rfl _ _ 83 rfl 3 3 .i64 keyedInt Try.underlying83 Try.underlying3 (Try.zeroValue3 _) mb m D rfl hown _ _ rfl hkey ?_)
        intro c hat hwc
        clear hat hwc
        go_wp2
        go_ret
        exact HR.out
      · obtain ⟨m, Hm⟩ : ∃ m, Hid (m = L.length) := ⟨_, Lib.hid rfl⟩
        have hisMap := hown.isMap
        have HF : ∀ (w1 w2 : World) (wr' : Value), w.drew.grownBy w1 (some mb) → w1.ownsMap Try.prog 3 (plainElem Try.prog 3) mb (m + 1) (D.put (.int .i64 (n : Int)) (.lit (.int .i64 (m : Int)))) →
            w2.ownsRow 0 79 2 wr' (m + 1) (wcells (L ++ [(n, v)])) → w1.grownBy w2 (Value.slice ad m cap).ownBlock → (∀ i, wr'.ownBlock = some i → (Value.slice ad m cap).ownBlock = some i ∨ w.heap.size ≤ i) →
            PutIs g F xs L (n : Int) v w (.returned (.int .i64 0)) (w2.setCell ⟨g, 1, none⟩ wr') := by
          intro w1 w2 wr' hg1 hmap hrow hg2 hnew
          rw [Hm.out] at hmap hrow hg2 hnew
          unfold PutIs putEI putI
          rw [if_pos hin, if_pos hin, Int.toNat_natCast]
          unfold putE putL
          rw [hfi]
          simp only
          rw [if_neg hfull, if_neg hfull]
          exact ⟨rfl, did_append h hfi hn hv (by omega) hD hmap hisMap ⟨hg1.os, hg1.tape, hg1.output, hg1.size, hg1.block⟩ hrow hg2 hnew⟩
        replace HF := Lib.hid HF
        have hrow0 := h.writes
        have hfr := h.fr
        have hfm := h.fm
        have hap := h.apart
        have hob := h.obj
        rw [← Hm.out] at c1 hown hfull hrow0 hob hap
        obtain ⟨z, Hz⟩ : ∃ z, Hid (z = xs.length) := ⟨_, Lib.hid rfl⟩
        rw [← Hz.out] at hn HL HI
        have hfull' : ¬ (96 : Int) ≤ (m : Int) := by omega
        clear h hD hD1 hD2 hfi hsame hin
        go_enter Try.func33, Try.ntmps33
        go_wp2_with fail
        refine HL.out.mono ?_
        rintro e w1 ⟨rfl, rfl⟩
        go_wp2_with fail
        refine HI.out.mono ?_
        rintro e w1 ⟨rfl, rfl⟩
        clear HL HI
        go_wp2_with (at_lookup; refine wpList_lookup_own_ok_int _ rfl _ _ 83 rfl 3 3 .i64 keyedInt Try.underlying83 Try.underlying3 (Try.zeroValue3 _) mb m D rfl hown _ _ rfl hkey ?_)
        intro c hat hwc
        clear hat hwc
        go_wp2_with fail
        go_still_tail 10, (by kernel_rfl)
        change wpList _ _ _ _ _ w.drew
        have hval : plainElem (H := Unit) Try.prog 3 (.int .i64 (m : Int)) = some (.lit (.int .i64 (m : Int)), []) := plainElem_int Try.underlying3 (lit_ok m (by omega))
        refine wpList_mapUpdate_own _ rfl _ _ _ 83 rfl 3 3 keyedInt Try.underlying83 (plainElem Try.prog 3) mb m D rfl hown.drew (by unfold maxLen; omega) _ _ (.int .i64 (n : Int)) rfl rfl hkey (.lit (.int .i64 (m : Int))) [] hval ?_
        intro w1 hmap hg1
        have hwg : w.grownBy w1 (some mb) := ⟨hg1.os, hg1.tape, hg1.output, hg1.size, hg1.block⟩
        have hob1 : w1.heap[g]? = some (.cells [ws, .slice ad m cap, .map (some mb)].toArray 85 (0, 0)) := (hwg.block g (lt_of_block hob) (by intro e; injection e with e; exact hap.1 e)).trans hob
        have d1 := row_cell hob1 1 _ rfl
        have df := row_free hob1 1
        have hrow1 : w1.ownsRow 0 79 2 (.slice ad m cap) m (wcells L) := hrow0.kept hwg (by
          cases ad with
          | none => exact .inl rfl
          | some q => exact .inr (fun e => by injection e with e; exact (hap.2.2.1 _ rfl).2 e))
        clear c0 c1 c2 hown hh hkey hval hrow0
        go_wp2_with (at_builtin; refine appW rfl _ _ rfl 0 _ m L rfl (hrow1.alloc _) ⟨w1.heap.size, 0, none⟩ 1 1 [(n, v)] rfl rfl (at_of_row (heap_alloc_new w1 _)) ?a2 (Nat.zero_le _) ?_)
        case a2 => omega
        intro ad2 cap2 w2 hrow2 hg2 hnew2
        have hg2' : w1.grownBy w2 (Value.slice ad m cap).ownBlock := grown_trans (World.grownBy_alloc w1 _ _) hg2
        have hF := HF.out w1 w2 _ hg1 hmap hrow2 hg2' (fun i hi => by
          rcases hnew2 i hi with e | e
          · exact .inl e
          · have e' : w1.heap.size + 1 ≤ i := by simpa using e
            have := hwg.size; exact .inr (by omega))
        have hob2 : w2.heap[g]? = some (.cells [ws, .slice ad m cap, .map (some mb)].toArray 85 (0, 0)) := (hg2'.block g (lt_of_block hob1) (by intro e; exact (hap.2.2.1 g e.symm).1 rfl)).trans hob1
        have d2 := row_cell hob2 1 _ rfl
        have df2 := row_free hob2 1
        replace hF := Lib.hid hF
        clear HF hob1 hob2 hrow1 hrow2 hg2 hg2' hnew2 hmap hg1 hwg d1 df
        go_wp2
        go_ret
        exact hF.out
  · have HR : PutIs g F xs L a v w (.returned (.int .i64 8)) w := by
      unfold PutIs putEI putI
      rw [if_neg hin, if_neg hin]
      exact ⟨rfl, hsame⟩
    replace HR := Lib.hid HR
    rw [show inB a xs.length = false from by unfold inB; by_cases h0 : 0 ≤ a <;> simp [h0]; omega] at HI
    clear hin h hsame
    go_enter Try.func33, Try.ntmps33
    go_wp2_with fail
    refine HL.out.mono ?_
    rintro e w1 ⟨rfl, rfl⟩
    go_wp2_with fail
    refine HI.out.mono ?_
    rintro e w1 ⟨rfl, rfl⟩
    go_wp2
    go_ret
    exact HR.out
end Go.Proofs.Ytdpkpphjpihhkaa
