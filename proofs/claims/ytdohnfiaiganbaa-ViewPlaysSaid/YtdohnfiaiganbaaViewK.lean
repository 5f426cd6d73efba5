/- The document's view: Flat, Apply; beside other things. -/
import Derived.Test.YtdohnfiaiganbaaViewJ
namespace Go.Proofs.Ytdohnfiaiganbaa
open Go.RowKit Go.Grommet

set_option maxHeartbeats 2000000 in
theorem RefFlat_any (g : Nat) (F : Nat → Prop) (xs : List Nat) (L : List (Nat × Nat)) (b : Bool) (w : World) (h : RefIs w g F xs L b) (base : Nat) (hb : base ≤ w.heap.size) :
    Calls Try.prog 21 #[.pointer (some ⟨g, 0, none⟩)] w (RowOf base (flatV xs L) w) := by
  obtain ⟨vi, vl, h⟩ := h
  obtain ⟨c0, c1, c2⟩ := h.cells
  obtain ⟨ad, cap, rfl, hat, hnil, hlc⟩ := row_slice h.words
  obtain ⟨bd, cap2, rfl, hat2, hnil2, hlc2⟩ := row_slice h.writes
  have hfit := h.fits
  have hfew := h.good.few
  have hold := row_old h.writes
  have hok := Lib.hid h.good.at_
  have hob := h.obj
  have hWx : Words w ad xs.length xs := ⟨rfl, h.small, hat, by omega⟩
  have hrow := h.writes
  clear h hat c2 hlc hnil2 hlc2 hat2
  obtain ⟨z, Hz⟩ : ∃ z, Hid (z = xs.length) := ⟨_, Lib.hid rfl⟩
  obtain ⟨m, Hm⟩ : ∃ m, Hid (m = L.length) := ⟨_, Lib.hid rfl⟩
  rw [← Hm.out] at c1 hob hold hfew hrow
  rw [← Hz.out] at c0 hob hfit hWx hnil
  have hgl : g < w.heap.size := lt_of_block hob
  go_enter Try.func21, Try.ntmps21
  go_wp2_with (at_builtin; refine app64 rfl _ _ rfl w.heap.size _ 0 [] rfl (own_lit w _ 1 _ (Nat.le_refl _)) ad z cap xs rfl ?a1 hnil ?a2 ?a3 ?_)
  case a1 => exact hWx.keep (World.grownBy_alloc w _ none) (by simp)
  case a2 => omega
  case a3 => simp
  intro v1 w1 hown hg
  have hg := grown_new (World.grownBy_alloc w _ none) hg (by intro g e; cases e; exact Nat.le_refl _)
  try rw [List.nil_append, Nat.zero_add] at hown
  obtain ⟨ad2, cp2, rfl, _⟩ := row_slice hown
  have hbl := fun i hi => (hown.lt i hi).1
  replace hob := Lib.hid hob
  replace hrow := Lib.hid hrow
  have Hown := Lib.hid hown
  clear hown hWx hnil c0 c1
  go_wp2_with fail
  go_loopw [4] (fun i wr => ∃ k : Nat, k ≤ m ∧ i = .int .i64 (k : Int) ∧ Hid (wr.ownsRow w.heap.size 29 1 (.slice ad2 z cp2) z ((flatV xs (L.take k)).map wv)) ∧ w.grownBy wr none) (fun i _ => m - (intOf i).toNat)
  case atStart => exact ⟨0, Nat.zero_le _, rfl, Hown, hg⟩
  case round =>
    clear Hown hg
    obtain ⟨k, hk, rfl, hr, hg⟩ := hrel
    have h0 : (0 : Int) ≤ (k : Int) := by omega
    have hobr := (hg.block g (lt_of_block hob.out) (by simp)).trans hob.out
    have c1 : wr.cell? ⟨g, 1, none⟩ = some (.slice bd m cap2) := by simp [World.cell?, hobr]
    clear hobr
    by_cases hlt : k < m
    · have hlt' : (k : Int) < (m : Int) := by omega
      have hkL : k < L.length := by rw [← Hm.out]; exact hlt
      have hp := hok.out _ (getD_mem L k (0, 0) hkL)
      rw [← Hz.out] at hp
      have hrw : wr.ownsRow 0 44 2 (.slice bd m cap2) m (wcells L) := hrow.out.kept hg (by
        cases (Value.slice bd m cap2).ownBlock with
        | none => exact .inl rfl
        | some q => exact .inr (by simp))
      obtain ⟨q, rfl, v0, v1, _, hcap, _⟩ := wr_cell hrw Hm.out.symm k hlt
      obtain ⟨b', rfl, d1, df, hcap2, hb'⟩ := wd_cell hr.out (by rw [flatV_length]; exact Hz.out.symm) _ hp
      have HS := Lib.hid (take_snocD L k (0, 0) hkL)
      generalize (flatV xs (L.take k)).getD (L.getD k (0, 0)).1 0 = U at d1
      have HA := Lib.hid (row_put hr.out (L.getD k (0, 0)).1 (.int .u64 ((L.getD k (0, 0)).2 : Int)))
      obtain ⟨A, A0⟩ : ∃ A, Hid (A = (L.getD k (0, 0)).1) := ⟨_, Lib.hid rfl⟩
      obtain ⟨V, V0⟩ : ∃ V, Hid (V = (L.getD k (0, 0)).2) := ⟨_, Lib.hid rfl⟩
      rw [← A0.out] at v0 d1 df hp HA
      rw [← V0.out] at v1 HA
      have hA' : (A : Int) < (z : Int) := by omega
      have hA0 : (0 : Int) ≤ (A : Int) := by omega
      have HG := Lib.hid (grown_new hg (grown_setCell wr ⟨b', A, none⟩ (.int .u64 (V : Int))) (by intro i e; cases e; exact hb'))
      clear hr hg hrw
      go_wp2_with fail
      go_still_tail 18, (by kernel_rfl)
      change wpList _ _ _ _ _ wr.drew
      go_wp2
      go_roundw
      case rel =>
        refine ⟨k + 1, by omega, by go_num, Lib.hid ?_, ?_⟩
        · rw [HS.out, flatV_snoc]
          rw [← V0.out, ← A0.out, ← map_wv_set]
          exact HA.out
        · exact grown_drew HG.out
      case measure => first | omega | (simp [intOf]; omega)
    · have hr2 := hr.out
      rw [List.take_of_length_le (by rw [← Hm.out]; omega)] at hr2
      have HR : RowOf base (flatV xs L) w (.returned (.slice ad2 z cp2)) wr := rowOf_mk (n := z) (by rw [flatV_length]; exact Hz.out) (row_base hr2 (fun i hi => by have := hbl i hi; omega)) hg
      clear hr2
      replace HR := Lib.hid HR
      clear hr
      have hlt' : ¬ (k : Int) < (m : Int) := by omega
      go_wp2
      go_ret
      exact HR.out

set_option maxHeartbeats 2000000 in
theorem RefApply_yes (base : Nat) (ad : Option Addr) (n cap : Nat) (xs : List Nat) (bd : Option Addr) (m c : Nat) (M : List (Int × Nat)) (w : World)
    (hown : w.ownsRow base 29 1 (.slice ad n cap) n (xs.map wv)) (hn : xs.length = n) (hat : At w bd (icells M)) (hL : M.length = m) (hm : m ≤ 549755813888) (hok : okI n M = true)
    (hne : ∀ a, bd = some a → M ≠ [] → (Value.slice ad n cap).ownBlock ≠ some a.block) :
    Calls Try.prog 24 #[.slice ad n cap, .slice bd m c] w (ApplyYes base (.slice ad n cap) n (flatV xs (natL M)) w) := by
  have HL := Lib.hid hL
  have HN := Lib.hid hn
  have HO := Lib.hid hok
  have Hrow := Lib.hid hown
  clear hL hn hok hown
  go_enter Try.func24, Try.ntmps24
  go_wp2_with fail
  go_loop [5] (fun i => ∃ k : Nat, k ≤ m ∧ i = .int .i64 (k : Int)) (fun i => m - (intOf i).toNat)
  case atStart => exact ⟨0, Nat.zero_le _, rfl⟩
  case round =>
    obtain ⟨k, hk, rfl⟩ := hrel
    have h0 : (0 : Int) ≤ (k : Int) := by omega
    by_cases hlt : k < m
    · have hlt' : (k : Int) < (m : Int) := by omega
      have hkL : k < M.length := by rw [HL.out]; exact hlt
      obtain ⟨q, o, rfl, v0, v1⟩ := at_ipair hat k hkL
      have hi := okI_at HO.out k hkL
      generalize (M.getD k (0, 0)).1 = A at v0 hi
      generalize (M.getD k (0, 0)).2 = V at v1
      unfold inB at hi
      simp only [Bool.and_eq_true, decide_eq_true_eq] at hi
      obtain ⟨i1, i2⟩ := hi
      have i1' : ¬ A < 0 := by omega
      have i2' : ¬ (n : Int) ≤ A := by omega
      go_wp2
      go_round
      case rel => exact ⟨k + 1, by omega, by go_num⟩
      case measure => simp [intOf]; omega
    · have hlt' : ¬ (k : Int) < (m : Int) := by omega
      go_wp2_with fail
      go_loopw [6] (fun i wr => ∃ k : Nat, k ≤ m ∧ i = .int .i64 (k : Int) ∧ Hid (wr.ownsRow base 29 1 (.slice ad n cap) n ((flatV xs ((natL M).take k)).map wv)) ∧ w.grownBy wr (Value.slice ad n cap).ownBlock) (fun i _ => m - (intOf i).toNat)
      case atStart => exact ⟨0, Nat.zero_le _, rfl, Hrow, World.grownBy.refl _ _⟩
      case round =>
        clear Hrow
        obtain ⟨k, hk, rfl, hr, hg⟩ := hrel
        have h0 : (0 : Int) ≤ (k : Int) := by omega
        by_cases hlt : k < m
        · have hlt' : (k : Int) < (m : Int) := by omega
          have hkL : k < M.length := by rw [HL.out]; exact hlt
          have hkN : k < (natL M).length := by rw [natL_length]; exact hkL
          have hp := natL_ok HO.out _ (getD_mem (natL M) k (0, 0) hkN)
          have hatr : At wr bd (wcells (natL M)) := by
            rw [← icells_nat M n HO.out]
            exact hat.grown hg (fun a ha hx => fun e => hne a ha (by intro h; rw [h] at hx; exact hx rfl) e.symm)
          obtain ⟨q, o, rfl, v0, v1⟩ := at_pair hatr k hkN
          obtain ⟨b', rfl, d1, df, hcap2, hb'⟩ := wd_cell hr.out (by rw [flatV_length]; exact HN.out) _ hp
          have HS := Lib.hid (take_snocD (natL M) k (0, 0) hkN)
          generalize (flatV xs ((natL M).take k)).getD ((natL M).getD k (0, 0)).1 0 = U at d1
          have HA := Lib.hid (row_put hr.out ((natL M).getD k (0, 0)).1 (.int .u64 (((natL M).getD k (0, 0)).2 : Int)))
          obtain ⟨A, A0⟩ : ∃ A, Hid (A = ((natL M).getD k (0, 0)).1) := ⟨_, Lib.hid rfl⟩
          obtain ⟨V, V0⟩ : ∃ V, Hid (V = ((natL M).getD k (0, 0)).2) := ⟨_, Lib.hid rfl⟩
          rw [← A0.out] at v0 d1 df hp HA
          rw [← V0.out] at v1 HA
          have hA' : (A : Int) < (n : Int) := by omega
          have hA0 : (0 : Int) ≤ (A : Int) := by omega
          have HG := Lib.hid (grown_trans hg (grown_setCell wr ⟨b', A, none⟩ (.int .u64 (V : Int))))
          clear hr hg hatr
          go_wp2_with fail
          go_still_tail 12, (by kernel_rfl)
          change wpList _ _ _ _ _ wr.drew
          go_wp2
          go_roundw
          case rel =>
            refine ⟨k + 1, by omega, by go_num, Lib.hid ?_, ?_⟩
            · rw [HS.out, flatV_snoc]
              rw [← V0.out, ← A0.out, ← map_wv_set]
              exact HA.out
            · exact grown_drew HG.out
          case measure => first | omega | (simp [intOf]; omega)
        · have hr2 := hr.out
          rw [List.take_of_length_le (by rw [natL_length, HL.out]; omega)] at hr2
          have HR : ApplyYes base (.slice ad n cap) n (flatV xs (natL M)) w (.returned (.int .i64 0)) wr := ⟨rfl, hr2, hg⟩
          replace HR := Lib.hid HR
          have hlt' : ¬ (k : Int) < (m : Int) := by omega
          clear hr hr2
          go_wp2
          go_ret
          exact HR.out

set_option maxHeartbeats 2000000 in
theorem RefApply_no (ad : Option Addr) (n cap : Nat) (bd : Option Addr) (m c : Nat) (M : List (Int × Nat)) (w : World)
    (hat : At w bd (icells M)) (hL : M.length = m) (hm : m ≤ 549755813888) (hok : okI n M = false) :
    Calls Try.prog 24 #[.slice ad n cap, .slice bd m c] w (ApplyNo w) := by
  have HL := Lib.hid hL
  have HO := Lib.hid hok
  clear hL hok
  go_enter Try.func24, Try.ntmps24
  go_wp2_with fail
  go_loop [5] (fun i => ∃ k : Nat, k ≤ m ∧ i = .int .i64 (k : Int) ∧ Hid (∀ j, j < k → inB (M.getD j (0, 0)).1 (n : Int) = true)) (fun i => m - (intOf i).toNat)
  case atStart => exact ⟨0, Nat.zero_le _, rfl, Lib.hid fun j hj => by omega⟩
  case round =>
    obtain ⟨k, hk, rfl, HP⟩ := hrel
    have h0 : (0 : Int) ≤ (k : Int) := by omega
    by_cases hlt : k < m
    · have hlt' : (k : Int) < (m : Int) := by omega
      have hkL : k < M.length := by rw [HL.out]; exact hlt
      obtain ⟨q, o, rfl, v0, v1⟩ := at_ipair hat k hkL
      obtain ⟨A, A0⟩ : ∃ A, Hid (A = (M.getD k (0, 0)).1) := ⟨_, Lib.hid rfl⟩
      rw [← A0.out] at v0
      generalize (M.getD k (0, 0)).2 = V at v1
      by_cases hA : A < 0
      · go_wp2
        go_ret
        exact ⟨rfl, World.grownBy.refl _ _⟩
      · by_cases hA2 : (n : Int) ≤ A
        · go_wp2
          go_ret
          exact ⟨rfl, World.grownBy.refl _ _⟩
        · have HP' : Hid (∀ j, j < k + 1 → inB (M.getD j (0, 0)).1 (n : Int) = true) := Lib.hid fun j hj => by
            by_cases hjk : j = k
            · subst hjk; rw [← A0.out]; unfold inB; simp; omega
            · exact HP.out j (by omega)
          go_wp2
          go_round
          case rel => exact ⟨k + 1, by omega, by go_num, HP'⟩
          case measure => simp [intOf]; omega
    · have hT := okI_of (n := n) (M := M) (fun j hj => HP.out j (by rw [HL.out] at hj; omega))
      rw [HO.out] at hT
      cases hT

theorem RefNewH (ad : Option Addr) (l c : Nat) (xs : List Nat) (w0 w : World) (Ps : List Pr) (h : Own w0 w Ps) (hx : Words w ad l xs) (hl : l ≤ 549755813888) (hnil : ad = none → l = 0 ∧ c = 0) :
    Calls Try.prog 11 #[.slice ad l c] w fun e w' => ∃ g, e = .returned (.pointer (some ⟨g, 0, none⟩)) ∧ Own w0 w' (Ps ++ [refP g xs [] false]) := by
  refine (RefNew_any ad l c xs w hx hl hnil).mono ?_
  rintro e w' ⟨g, F, he, hv, hF, hg⟩
  exact ⟨g, he, h.add (P := refP g xs [] false) hv hF hg⟩
theorem RefPutH (k g : Nat) (xs : List Nat) (L : List (Nat × Nat)) (b : Bool) (a : Int) (v : Nat) (en : Int) (w0 w : World) (Ps Qs : List Pr) (h : Own w0 w Ps) (hk : Ps[k]? = some (refP g xs L b)) (hv : v < 18446744073709551616)
    (he : (putEI xs L a : Int) = en) (hQ : Ps.set k (refP g xs (putI xs L a v) (putM xs L a b)) = Qs) :
    Calls Try.prog 16 #[.pointer (some ⟨g, 0, none⟩), .int .i64 a, .int .u64 (v : Int)] w fun e w' => e = .returned (.int .i64 en) ∧ Own w0 w' Qs := by
  obtain ⟨F, h1, h2⟩ := h.take k hk
  refine (RefPut_any g F xs L b a v w h1 hv).mono ?_
  rintro e w' ⟨rfl, hd⟩
  subst he
  subst hQ
  exact ⟨rfl, h2 w' _ hd⟩
theorem RefGetH (k g : Nat) (xs : List Nat) (L : List (Nat × Nat)) (b : Bool) (a : Int) (w0 w : World) (Ps : List Pr) (h : Own w0 w Ps) (hk : Ps[k]? = some (refP g xs L b)) :
    Calls Try.prog 13 #[.pointer (some ⟨g, 0, none⟩), .int .i64 a] w fun e w' => e = .returned (.int .u64 (gotI xs L a : Int)) ∧ w' = w := by
  obtain ⟨F, h1⟩ := h.get k hk
  exact (RefGet_any g F xs L b a w h1).mono fun _ _ h => ⟨h.1, h.2.symm⟩
theorem RefFlatH (k g : Nat) (xs : List Nat) (L : List (Nat × Nat)) (b : Bool) (w0 w : World) (Ps : List Pr) (h : Own w0 w Ps) (hk : Ps[k]? = some (refP g xs L b)) :
    Calls Try.prog 21 #[.pointer (some ⟨g, 0, none⟩)] w fun e w' => ∃ ad cap, e = .returned (.slice ad xs.length cap) ∧ Own w0 w' (Ps ++ [rowP 29 1 (.slice ad xs.length cap) xs.length ((flatV xs L).map wv)]) := by
  obtain ⟨F, h1⟩ := h.get k hk
  refine (RefFlat_any g F xs L b w h1 w.heap.size (Nat.le_refl _)).mono ?_
  rintro e w' ⟨ad, cap, he, hr, hg⟩
  rw [flatV_length] at he hr
  exact ⟨ad, cap, he, h.addRow hr hg⟩
theorem RefApplyH (k : Nat) (ad : Option Addr) (n cap : Nat) (xs : List Nat) (bd : Option Addr) (m c : Nat) (M : List (Int × Nat)) (w0 w : World) (Ps Qs : List Pr) (h : Own w0 w Ps) (hk : Ps[k]? = some (rowP 29 1 (.slice ad n cap) n (xs.map wv))) (hn : xs.length = n)
    (hat : At w bd (icells M)) (hL : M.length = m) (hm : m ≤ 549755813888) (hok : okI n M = true) (hne : ∀ a, bd = some a → M ≠ [] → (Value.slice ad n cap).ownBlock ≠ some a.block)
    (hQ : Ps.set k (rowP 29 1 (.slice ad n cap) n ((flatV xs (natL M)).map wv)) = Qs) :
    Calls Try.prog 24 #[.slice ad n cap, .slice bd m c] w fun e w' => e = .returned (.int .i64 0) ∧ Own w0 w' Qs := by
  obtain ⟨F, h1, h2⟩ := h.take k hk
  refine (RefApply_yes 0 ad n cap xs bd m c M w h1.1 hn hat hL hm hok hne).mono ?_
  rintro e w' ⟨rfl, hr, hg⟩
  subst hQ
  exact ⟨rfl, h2 w' _ ⟨F, ⟨hr, h1.2.1, fun i hi => Nat.lt_of_lt_of_le (h1.2.2 i hi) hg.size⟩, fun i hi => .inl hi, Turn.of hg (fun i e => h1.2.1 i e)⟩⟩

/-- The cells of the document's view; nothing written any more. -/
theorem Own.refObj {w0 w : World} {Ps : List Pr} (h : Own w0 w Ps) (k : Nat) {r : Nat} {xs : List Nat} {L : List (Nat × Nat)} {b : Bool} (hk : Ps[k]? = some (refP r xs L b)) :
    ∃ vi ad cap, w.heap[r]? = some (.cells [vi, .slice ad L.length cap, .bool b].toArray 35 (0, 0)) ∧ w.ownsRow 0 44 2 (.slice ad L.length cap) L.length (wcells L) ∧ Wl xs.length L ∧ (∀ n ∈ xs, n < 18446744073709551616) ∧ xs.length ≤ 549755813888 := by
  obtain ⟨F, vi, vl, h1⟩ := h.get k hk
  obtain ⟨ad, cap, rfl, _⟩ := row_slice h1.writes
  exact ⟨vi, ad, cap, h1.obj, h1.writes, h1.good, h1.small, h1.fits⟩
theorem Own.refNil {w0 w : World} {Ps : List Pr} (h : Own w0 w Ps) (k : Nat) {r : Nat} {xs : List Nat} {L : List (Nat × Nat)} {b : Bool} (hk : Ps[k]? = some (refP r xs L b)) :
    Own w0 (w.setCell ⟨r, 1, none⟩ (.slice none 0 0)) (Ps.set k (refP r xs [] b)) := by
  obtain ⟨F, ⟨vi, vl, h1⟩, h2⟩ := h.take k hk
  have hob : w.heap[r]? = some (.cells [vi, vl, .bool b].toArray 35 (0, 0)) := h1.obj
  have t0 : Turn (fun i => i = r) w (w.setCell ⟨r, 1, none⟩ (.slice none 0 0)) := Turn.of (grown_setCell _ _ _) (fun i e => by cases e; rfl)
  refine h2 _ (refP r xs [] b) ⟨F, ⟨vi, .slice none 0 0, ⟨row_set hob 1 _, t0.row h1.words (fun i hi e => h1.apart.1 i hi e), World.ownsRow_nil _ _ _ _, h1.small, h1.fits, Wl.nil _, fun i hi => Nat.lt_of_lt_of_le (h1.old i hi) t0.size, h1.fg, h1.fw, fun i hi => by cases hi⟩⟩, fun i hi => .inl hi, t0.mono (fun i e => by subst e; exact .inl h1.fg)⟩
theorem WritesG (k g : Nat) (xs : List Nat) (L : List (Nat × Nat)) (w0 w : World) (Ps : List Pr) (h : Own w0 w Ps) (hk : Ps[k]? = some (viewP g xs L)) :
    Calls Try.prog 18 #[.pointer (some ⟨g, 0, none⟩)] w fun e w' => ∃ ad cap, e = .returned (.slice ad L.length cap) ∧ Own w0 w' (Ps ++ [rowP 44 2 (.slice ad L.length cap) L.length (wcells L)]) ∧ w.grownBy w' none := by
  obtain ⟨F, h1⟩ := h.get k hk
  refine (Writes_any g F xs L w h1 w.heap.size (Nat.le_refl _)).mono ?_
  rintro e w' ⟨ad, cap, he, hr, hg⟩
  exact ⟨ad, cap, he, h.addRow hr hg, hg⟩
theorem FlatG (k g : Nat) (xs : List Nat) (L : List (Nat × Nat)) (w0 w : World) (Ps : List Pr) (h : Own w0 w Ps) (hk : Ps[k]? = some (viewP g xs L)) :
    Calls Try.prog 19 #[.pointer (some ⟨g, 0, none⟩)] w fun e w' => ∃ ad cap, e = .returned (.slice ad xs.length cap) ∧ Own w0 w' (Ps ++ [rowP 29 1 (.slice ad xs.length cap) xs.length ((flatV xs L).map wv)]) ∧ w.grownBy w' none := by
  obtain ⟨F, h1⟩ := h.get k hk
  refine (Flat_any g F xs L w h1 w.heap.size (Nat.le_refl _)).mono ?_
  rintro e w' ⟨ad, cap, he, hr, hg⟩
  rw [flatV_length] at he hr
  exact ⟨ad, cap, he, h.addRow hr hg, hg⟩
theorem RefFlatG (k g : Nat) (xs : List Nat) (L : List (Nat × Nat)) (b : Bool) (w0 w : World) (Ps : List Pr) (h : Own w0 w Ps) (hk : Ps[k]? = some (refP g xs L b)) :
    Calls Try.prog 21 #[.pointer (some ⟨g, 0, none⟩)] w fun e w' => ∃ ad cap, e = .returned (.slice ad xs.length cap) ∧ Own w0 w' (Ps ++ [rowP 29 1 (.slice ad xs.length cap) xs.length ((flatV xs L).map wv)]) ∧ w.grownBy w' none := by
  obtain ⟨F, h1⟩ := h.get k hk
  refine (RefFlat_any g F xs L b w h1 w.heap.size (Nat.le_refl _)).mono ?_
  rintro e w' ⟨ad, cap, he, hr, hg⟩
  rw [flatV_length] at he hr
  exact ⟨ad, cap, he, h.addRow hr hg, hg⟩
end Go.Proofs.Ytdohnfiaiganbaa
