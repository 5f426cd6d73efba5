/- A session's words through opens and closes. -/
import Derived.Test.YtdpkpphjpihhkaaClaC
import Derived.Test.YtdpkpphjpihhkaaSaveMath
namespace Go.Proofs.Ytdpkpphjpihhkaa
open Go.RowKit Go.Grommet

theorem own_back {w0 w : World} {Qs Ps : List Pr} (h : Own w0 w (Qs ++ Ps)) : Own w0 w Ps := by
  obtain ⟨Fs, h1, h2, h3, h4⟩ := h
  refine ⟨fun j => Fs (Qs.length + j), fun k P hk => h1 _ P ?_, fun j k hj hk hne => h2 _ _ (by rw [List.length_append]; omega) (by rw [List.length_append]; omega) (by omega), fun k hk => h3 _ (by rw [List.length_append]; omega), h4⟩
  rw [List.getElem?_append_right (by omega), show Qs.length + k - Qs.length = k from by omega]; exact hk
theorem gotI_at {xs : List Nat} {L : List (Nat × Nat)} {p : Int} (n : Nat) (hp : p = (n : Int)) (hn : n < xs.length) : gotI xs L p = gotV xs L n := by
  subst hp; unfold gotI; rw [if_pos ⟨by omega, by omega⟩]; congr 1
def oB : Bool → Nat | true => 1 | false => 0
/-- What a view has of a session, and of the rest. -/
structure After (ys : List Nat) (L : List (Nat × Nat)) (A o G : Nat) : Prop where
  o : gotV ys L A = o
  g : gotV ys L (A + 1) = G
  z : ∀ j, A + 2 ≤ j → j < A + 64 → gotV ys L j = 0
  r : ∀ j, (j < A ∨ A + 64 ≤ j) → gotV ys L j = ys.getD j 0
structure Sess (ys : List Nat) (A o G : Nat) : Prop where
  len : ys.length = 536
  small : ∀ n ∈ ys, n < 18446744073709551616
  o : ys.getD A 0 = o
  g : ys.getD (A + 1) 0 = G
  z : ∀ j, A + 2 ≤ j → j < A + 64 → ys.getD j 0 = 0
theorem Sess.after {ys : List Nat} {A o G : Nat} (h : Sess ys A o G) : After ys [] A o G := ⟨h.o, h.g, h.z, fun _ _ => rfl⟩
theorem After.sess {ys : List Nat} {L : List (Nat × Nat)} {A o G : Nat} (h : After ys L A o G) (hl : ys.length = 536) (hs : ∀ n ∈ ys, n < 18446744073709551616) (hw : Wl ys.length L) (hA : A + 64 ≤ 536) : Sess (flatV ys L) A o G :=
  ⟨by rw [flatV_length, hl], flatV_small hs hw.val, by rw [Go.Grommet.flat_get hw A (by omega)]; exact h.o, by rw [Go.Grommet.flat_get hw (A + 1) (by omega)]; exact h.g, fun j h1 h2 => by rw [Go.Grommet.flat_get hw j (by omega)]; exact h.z j h1 h2⟩
theorem After.rest {ys : List Nat} {L : List (Nat × Nat)} {A o G : Nat} (h : After ys L A o G) (hl : ys.length = 536) (hw : Wl ys.length L) (j : Nat) (hj : j < 536) (ho : j < A ∨ A + 64 ≤ j) : (flatV ys L).getD j 0 = ys.getD j 0 := by
  rw [Go.Grommet.flat_get hw j (by omega)]; exact h.r j ho

theorem lk_three (p : Int) (a b c : Nat) (j : Nat) : lk [(p, a), (p + 1, b), (p + 2, c)] j = if p + 2 = (j : Int) then some c else if p + 1 = (j : Int) then some b else if p = (j : Int) then some a else none := by
  unfold lk lk lk lk
  by_cases h3 : p + 2 = (j : Int)
  · simp [h3]
  · by_cases h2 : p + 1 = (j : Int)
    · simp [h2, h3]
    · simp [h2, h3]
theorem got_three {ys : List Nat} (hl : ys.length = 536) (A a b c : Nat) (hA : A + 64 ≤ 536) :
    allE ys [] [((A : Int), a), ((A : Int) + 1, b), ((A : Int) + 2, c)] = 0 ∧ ∀ j : Nat, gotV ys (allL ys [] [((A : Int), a), ((A : Int) + 1, b), ((A : Int) + 2, c)]) j = if j = A + 2 then c else if j = A + 1 then b else if j = A then a else ys.getD j 0 := by
  obtain ⟨h1, h2⟩ := all_lk ys [((A : Int), a), ((A : Int) + 1, b), ((A : Int) + 2, c)] [] (by
    intro s hs
    rw [hl]
    simp only [List.mem_cons, List.not_mem_nil, or_false] at hs
    rcases hs with e | e | e <;> subst e <;> dsimp only <;> omega) (by simp)
  refine ⟨h1, fun j => ?_⟩
  rw [h2 j, lk_three]
  by_cases e2 : j = A + 2
  · rw [if_pos e2, if_pos (by omega)]; rfl
  · rw [if_neg e2, if_neg (by omega)]
    by_cases e1 : j = A + 1
    · rw [if_pos e1, if_pos (by omega)]; rfl
    · rw [if_neg e1, if_neg (by omega)]
      by_cases e0 : j = A
      · rw [if_pos e0, if_pos (by omega)]; rfl
      · rw [if_neg e0, if_neg (by omega)]; rfl
theorem wipe_area_all : ((List.range 4).all fun a => (wipeS (a : Int)).all fun s => decide ((8 + 64 * a + 8 : Nat) ≤ s.1) && decide (s.1 < (8 + 64 * a + 64 : Nat)) && s.2 == 0) = true := by kernel_rfl
theorem wipe_area {a : Nat} (ha : a < 4) : ∀ s ∈ wipeS (a : Int), ((8 + 64 * a + 8 : Nat) : Int) ≤ s.1 ∧ s.1 < ((8 + 64 * a + 64 : Nat) : Int) ∧ s.2 = 0 := by
  intro s hs
  have h1 := List.all_eq_true.1 wipe_area_all a (List.mem_range.2 ha)
  have h2 := List.all_eq_true.1 h1 s hs
  simp only [Bool.and_eq_true, decide_eq_true_eq, beq_iff_eq] at h2
  exact ⟨h2.1.1, h2.1.2, h2.2⟩
theorem open_after {ys : List Nat} {a A o G : Nat} (ha : a < 4) (hA : A = 8 + 64 * a) (h : Sess ys A o G) (g : Nat) :
    allE ys [] [((A : Int), 1), ((A : Int) + 1, g), ((A : Int) + 2, 0)] = 0 ∧ ∃ L1, allL ys [] [((A : Int), 1), ((A : Int) + 1, g), ((A : Int) + 2, 0)] = L1 ∧ allE ys L1 (wipeS (a : Int)) = 0 ∧ allL ys L1 (wipeS (a : Int)) = L1 ∧ After ys L1 A 1 g := by
  obtain ⟨h1, h2⟩ := got_three h.len A 1 g 0 (by omega)
  refine ⟨h1, _, rfl, ?_⟩
  generalize allL ys [] [((A : Int), 1), ((A : Int) + 1, g), ((A : Int) + 2, 0)] = L1 at h2
  have hAf : After ys L1 A 1 g := by
    refine ⟨?_, ?_, fun j j1 j2 => ?_, fun j hj => ?_⟩
    · rw [h2, if_neg (by omega), if_neg (by omega), if_pos rfl]
    · rw [h2, if_neg (by omega), if_pos rfl]
    · rw [h2]
      by_cases e : j = A + 2
      · rw [if_pos e]
      · rw [if_neg e, if_neg (by omega), if_neg (by omega)]; exact h.z j j1 j2
    · rw [h2, if_neg (by omega), if_neg (by omega), if_neg (by omega)]
  obtain ⟨w1, w2⟩ := all_same ys L1 (wipeS (a : Int)) (fun s hs => by
    have b := wipe_area ha s hs
    have z := b.2.2
    obtain ⟨n, hn⟩ := Int.eq_ofNat_of_zero_le (show 0 ≤ s.1 by omega)
    refine ⟨by omega, by rw [h.len]; omega, ?_⟩
    rw [gotI_at n hn (by rw [h.len]; omega), z]
    exact hAf.z n (by omega) (by omega))
  exact ⟨w1, w2, hAf⟩
theorem close_after {ys : List Nat} {A G : Nat} (hA : A + 64 ≤ 536) (h : Sess ys A 1 G) :
    allE ys [] [((A : Int), 0), ((A : Int) + 1, G), ((A : Int) + 2, 0)] = 0 ∧ ∃ L1, allL ys [] [((A : Int), 0), ((A : Int) + 1, G), ((A : Int) + 2, 0)] = L1 ∧ After ys L1 A 0 G := by
  obtain ⟨h1, h2⟩ := got_three h.len A 0 G 0 hA
  refine ⟨h1, _, rfl, ?_⟩
  generalize allL ys [] [((A : Int), 0), ((A : Int) + 1, G), ((A : Int) + 2, 0)] = L1 at h2
  refine ⟨?_, ?_, fun j j1 j2 => ?_, fun j hj => ?_⟩
  · rw [h2, if_neg (by omega), if_neg (by omega), if_pos rfl]
  · rw [h2, if_neg (by omega), if_pos rfl]
  · rw [h2]
    by_cases e : j = A + 2
    · rw [if_pos e]
    · rw [if_neg e, if_neg (by omega), if_neg (by omega)]; exact h.z j j1 j2
  · rw [h2, if_neg (by omega), if_neg (by omega), if_neg (by omega)]

theorem sess_at {a A : Nat} (ha : a < 4) (hA : A = 8 + 64 * a) : sessionV (a : Int) = (A : Int) := by unfold sessionV; rw [if_pos ⟨by omega, by omega⟩, hA]; omega

theorem OfOpen (k g : Nat) (xs : List Nat) (L : List (Nat × Nat)) (a A ge : Nat) (ha : a < 4) (hA : A = 8 + 64 * a) (hxl : xs.length = 536) (hf : After xs L A 1 ge) (w0 w : World) (Ps : List Pr) (h : Own w0 w Ps) (hk : Ps[k]? = some (viewP g xs L)) :
    Calls Try.prog 14 #[.pointer (some ⟨g, 0, none⟩), .int .i64 (a : Int), .int .u64 (ge : Int), .int .u64 1] w fun e w' => (∃ (ra rb : Nat) (dd : ByteArray), e = .returned (.tuple #[.int .u8 0, .agg #[.int .i64 0, .int .u64 (ra : Int), .int .u64 (rb : Int), .string dd], .int .i64 0])) ∧ Own w0 w' Ps := by
  have hat := sess_at ha hA
  have hsl : slotV (a : Int) ((1 % 4 : Nat) : Int) = ((A + 20 : Nat) : Int) := by unfold slotV; rw [if_pos ⟨⟨by omega, by omega⟩, by omega, by omega⟩]; omega
  refine (OfH k g xs L (a : Int) (A : Int) ge 0 1 w0 w Ps h hk hat (by rw [hxl]; omega) (by rw [hxl]; decide) (by rw [gotI_at A rfl (by omega)]; exact hf.o) (by rw [gotI_at (A + 1) (by omega) (by omega)]; exact hf.g) (by rw [gotI_at (A + 2) (by omega) (by omega)]; exact hf.z _ (by omega) (by omega)) (by decide) (by decide) 0 (fun wx Qs hO hq => ?_)).mono ?_
  · refine (LoadZero k g xs L (a : Int) _ (A : Int) ((A + 20 : Nat) : Int) w0 wx Qs hO hq hat (by rw [hxl]; omega) hsl (by omega) (by rw [gotI_at (A + 20) rfl (by omega)]; exact hf.z _ (by omega) (by omega))).mono ?_
    rintro e w' ⟨rfl, h⟩
    exact ⟨0, 0, ⟨#[]⟩, rfl, h⟩
  · rintro e w' ⟨⟨ra, rb, dd, rfl⟩, h⟩
    exact ⟨⟨ra, rb, dd, rfl⟩, h⟩
theorem OfClose (k g : Nat) (xs : List Nat) (L : List (Nat × Nat)) (a A ge : Nat) (ha : a < 4) (hA : A = 8 + 64 * a) (hxl : xs.length = 536) (hf : After xs L A 0 ge) (w0 w : World) (Ps : List Pr) (h : Own w0 w Ps) (hk : Ps[k]? = some (viewP g xs L)) (gen : Nat) :
    Calls Try.prog 14 #[.pointer (some ⟨g, 0, none⟩), .int .i64 (a : Int), .int .u64 (gen : Int), .int .u64 1] w fun e w' => e = .returned (.tuple #[.int .u8 0, .agg #[.int .i64 0, .int .u64 0, .int .u64 0, .string ⟨#[]⟩], .int .i64 22]) ∧ Own w0 w' Ps :=
  OfShut k g xs L (a : Int) (A : Int) ge 0 1 w0 w Ps h hk (sess_at ha hA) (by rw [hxl]; omega) (by rw [hxl]; decide) (by rw [gotI_at A rfl (by omega)]; exact hf.o) (by rw [gotI_at (A + 1) (by omega) (by omega)]; exact hf.g) (by rw [gotI_at (A + 2) (by omega) (by omega)]; exact hf.z _ (by omega) (by omega)) (by decide) (by decide) gen
theorem oB_eq (ob : Bool) : ((oB ob : Int) == 1) = ob := by cases ob <;> rfl
theorem oB_le (ob : Bool) : oB ob ≤ 1 := by cases ob <;> decide

theorem OpenOld (k g : Nat) (ys : List Nat) (a A G gg : Nat) (ob : Bool) (ha : a < 4) (hA : A = 8 + 64 * a) (hs : Sess ys A (oB ob) G) (h1 : 1 ≤ gg) (h2 : gg ≤ 6) (c : Nat) (hc : openR ob G gg = c) (hne : c ≠ 0) (w0 w : World) (Ps : List Pr) (h : Own w0 w Ps) (hk : Ps[k]? = some (viewP g ys [])) :
    Calls Try.prog 18 #[.pointer (some ⟨g, 0, none⟩), .int .i64 (a : Int), .int .u64 (gg : Int)] w fun e w' => e = .returned (.tuple #[.int .u8 (c : Int), .int .i64 0]) ∧ Own w0 w' Ps := by
  obtain ⟨e1, L1, e2, e3, e4, e5⟩ := open_after ha hA hs gg
  have hf := hs.after
  have hxl := hs.len
  refine (OpenH k g ys [] (a : Int) (A : Int) (oB ob) G 0 gg ob w0 w Ps h hk (sess_at ha hA) (by rw [hxl]; omega) (by rw [hxl]; decide) (by rw [gotI_at A rfl (by omega)]; exact hf.o) (oB_eq ob) (oB_le ob) (by rw [gotI_at (A + 1) (by omega) (by omega)]; exact hf.g) (by rw [gotI_at (A + 2) (by omega) (by omega)]; exact hf.z _ (by omega) (by omega)) h1 (by omega) (by omega) L1 e1 e2 e3 e4).mono ?_
  rintro e w' ⟨rfl, hO⟩
  rw [hc, if_neg hne, set_same_view hk] at hO
  exact ⟨by rw [hc], hO⟩
theorem OpenNew (k g : Nat) (ys : List Nat) (a A G gg : Nat) (ob : Bool) (ha : a < 4) (hA : A = 8 + 64 * a) (hs : Sess ys A (oB ob) G) (h1 : 1 ≤ gg) (h2 : gg ≤ 6) (hc : openR ob G gg = 0) (w0 w : World) (Ps : List Pr) (h : Own w0 w Ps) (hk : Ps[k]? = some (viewP g ys [])) :
    Calls Try.prog 18 #[.pointer (some ⟨g, 0, none⟩), .int .i64 (a : Int), .int .u64 (gg : Int)] w fun e w' => ∃ L, e = .returned (.tuple #[.int .u8 0, .int .i64 0]) ∧ Own w0 w' (Ps.set k (viewP g ys L)) ∧ Hid (After ys L A 1 gg) := by
  obtain ⟨e1, L1, e2, e3, e4, e5⟩ := open_after ha hA hs gg
  have hf := hs.after
  have hxl := hs.len
  refine (OpenH k g ys [] (a : Int) (A : Int) (oB ob) G 0 gg ob w0 w Ps h hk (sess_at ha hA) (by rw [hxl]; omega) (by rw [hxl]; decide) (by rw [gotI_at A rfl (by omega)]; exact hf.o) (oB_eq ob) (oB_le ob) (by rw [gotI_at (A + 1) (by omega) (by omega)]; exact hf.g) (by rw [gotI_at (A + 2) (by omega) (by omega)]; exact hf.z _ (by omega) (by omega)) h1 (by omega) (by omega) L1 e1 e2 e3 e4).mono ?_
  rintro e w' ⟨rfl, hO⟩
  rw [hc, if_pos rfl] at hO
  exact ⟨L1, by rw [hc]; rfl, hO, Lib.hid e5⟩
theorem CloseOld (k g : Nat) (ys : List Nat) (a A G gg : Nat) (ob : Bool) (ha : a < 4) (hA : A = 8 + 64 * a) (hs : Sess ys A (oB ob) G) (h1 : 1 ≤ gg) (h2 : gg ≤ 6) (hG : G ≤ 6) (c : Nat) (hc : closeR ob G gg = c) (hne : c ≠ 0) (w0 w : World) (Ps : List Pr) (h : Own w0 w Ps) (hk : Ps[k]? = some (viewP g ys [])) :
    Calls Try.prog 20 #[.pointer (some ⟨g, 0, none⟩), .int .i64 (a : Int), .int .u64 (gg : Int)] w fun e w' => e = .returned (.tuple #[.int .u8 (c : Int), .int .i64 0]) ∧ Own w0 w' Ps := by
  obtain ⟨e1, e2⟩ := got_three hs.len A 0 G 0 (by omega)
  have hf := hs.after
  have hxl := hs.len
  refine (CloseH k g ys [] (a : Int) (A : Int) (oB ob) G 0 gg ob w0 w Ps h hk (sess_at ha hA) (by rw [hxl]; omega) (by rw [hxl]; decide) (by rw [gotI_at A rfl (by omega)]; exact hf.o) (oB_eq ob) (oB_le ob) (by rw [gotI_at (A + 1) (by omega) (by omega)]; exact hf.g) (by rw [gotI_at (A + 2) (by omega) (by omega)]; exact hf.z _ (by omega) (by omega)) h1 (by omega) (by omega) (by omega) _ e1 rfl).mono ?_
  rintro e w' ⟨rfl, hO⟩
  rw [hc, if_neg hne, set_same_view hk] at hO
  exact ⟨by rw [hc], hO⟩
theorem CloseNew (k g : Nat) (ys : List Nat) (a A G gg : Nat) (ha : a < 4) (hA : A = 8 + 64 * a) (hs : Sess ys A 1 G) (h1 : 1 ≤ gg) (h2 : gg ≤ 6) (hG : G ≤ 6) (hc : closeR true G gg = 0) (w0 w : World) (Ps : List Pr) (h : Own w0 w Ps) (hk : Ps[k]? = some (viewP g ys [])) :
    Calls Try.prog 20 #[.pointer (some ⟨g, 0, none⟩), .int .i64 (a : Int), .int .u64 (gg : Int)] w fun e w' => ∃ L, e = .returned (.tuple #[.int .u8 0, .int .i64 0]) ∧ Own w0 w' (Ps.set k (viewP g ys L)) ∧ Hid (After ys L A 0 G) := by
  obtain ⟨e1, L1, e2, e5⟩ := close_after (by omega) hs
  have hf := hs.after
  have hxl := hs.len
  refine (CloseH k g ys [] (a : Int) (A : Int) 1 G 0 gg true w0 w Ps h hk (sess_at ha hA) (by rw [hxl]; omega) (by rw [hxl]; decide) (by rw [gotI_at A rfl (by omega)]; exact hf.o) rfl (by decide) (by rw [gotI_at (A + 1) (by omega) (by omega)]; exact hf.g) (by rw [gotI_at (A + 2) (by omega) (by omega)]; exact hf.z _ (by omega) (by omega)) h1 (by omega) (by omega) (by omega) L1 e1 e2).mono ?_
  rintro e w' ⟨rfl, hO⟩
  rw [hc, if_pos rfl] at hO
  exact ⟨L1, by rw [hc]; rfl, hO, Lib.hid e5⟩
end Go.Proofs.Ytdpkpphjpihhkaa
