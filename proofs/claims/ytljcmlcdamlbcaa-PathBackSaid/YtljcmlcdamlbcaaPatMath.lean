/- A path's text: its pieces between the slashes, what Split and Join answer. -/
import Derived.Test.YtljcmlcdamlbcaaMay
namespace Go.Proofs.Ytljcmlcdamlbcaa
open Go.RowKit Go.Grommet

theorem indexB_lt {c : UInt8} : ∀ {l : List UInt8}, Lib.indexByte l c < 0 ↔ ∀ b ∈ l, b ≠ c
  | [] => ⟨(fun _ b hb => absurd hb (by simp)), (fun _ => by unfold Lib.indexByte; decide)⟩
  | x :: l => by
    have ih := indexB_lt (c := c) (l := l)
    have hge := Lib.indexByte_ge l c
    unfold Lib.indexByte
    by_cases hx : x = c
    · subst hx
      simp
    · have hx' : (x == c) = false := by simpa using hx
      rw [hx']
      simp only [Bool.false_eq_true, if_false]
      by_cases h1 : Lib.indexByte l c = -1
      · have h1' : (Lib.indexByte l c == -1) = true := by simpa using h1
        rw [h1', if_pos rfl]
        constructor
        · intro _ b hb
          rcases List.mem_cons.1 hb with rfl | hb
          · exact hx
          · exact ih.1 (by omega) b hb
        · intro _; decide
      · have h1' : (Lib.indexByte l c == -1) = false := by simpa using h1
        rw [h1', if_neg (by simp)]
        constructor
        · intro h; omega
        · intro h
          have := ih.2 (fun b hb => h b (List.mem_cons_of_mem _ hb))
          omega
theorem indexB_at {c : UInt8} : ∀ {l : List UInt8}, ¬ Lib.indexByte l c < 0 → ∃ p r, l = p ++ c :: r ∧ Lib.indexByte l c = (p.length : Int) ∧ ∀ b ∈ p, b ≠ c
  | [], h => absurd (by unfold Lib.indexByte; decide) h
  | x :: l, h => by
    have hge := Lib.indexByte_ge l c
    by_cases hx : x = c
    · subst hx
      exact ⟨[], l, rfl, by unfold Lib.indexByte; simp, by simp⟩
    · have hl : ¬ Lib.indexByte l c < 0 := by
        intro hc
        refine h (indexB_lt.2 (fun b hb => ?_))
        rcases List.mem_cons.1 hb with rfl | hb
        · exact hx
        · exact indexB_lt.1 hc b hb
      obtain ⟨p, r, e, hk, hp⟩ := indexB_at (c := c) (l := l) hl
      refine ⟨x :: p, r, by rw [e]; rfl, ?_, fun b hb => ?_⟩
      · have hx' : (x == c) = false := by simpa using hx
        have h1' : (Lib.indexByte l c == -1) = false := by rw [beq_eq_false_iff_ne]; omega
        unfold Lib.indexByte
        rw [hx']
        simp only [Bool.false_eq_true, if_false]
        rw [h1', if_neg (by simp), hk, List.length_cons]
        omega
      · rcases List.mem_cons.1 hb with rfl | hb
        · exact hx
        · exact hp b hb

/-- The pieces of a text between its slashes. -/
def pcs : List UInt8 → List (List UInt8)
  | [] => [[]]
  | b :: l => if b = 47 then [] :: pcs l else (b :: (pcs l).headD []) :: (pcs l).tail
theorem pcs_slash (l : List UInt8) : pcs (47 :: l) = [] :: pcs l := by
  show (if (47 : UInt8) = 47 then _ else _) = _
  rw [if_pos rfl]
theorem pcs_other {b : UInt8} (l : List UInt8) (h : b ≠ 47) : pcs (b :: l) = (b :: (pcs l).headD []) :: (pcs l).tail := by
  show (if b = 47 then _ else _) = _
  rw [if_neg h]
theorem pcs_none : ∀ {l : List UInt8}, (∀ b ∈ l, b ≠ 47) → pcs l = [l]
  | [], _ => rfl
  | b :: l, h => by rw [pcs_other l (h b (List.mem_cons_self ..)), pcs_none (fun x hx => h x (List.mem_cons_of_mem _ hx))]; rfl
theorem pcs_cut : ∀ {p : List UInt8} (r : List UInt8), (∀ b ∈ p, b ≠ 47) → pcs (p ++ 47 :: r) = p :: pcs r
  | [], r, _ => pcs_slash r
  | b :: p, r, h => by
    rw [List.cons_append, pcs_other _ (h b (List.mem_cons_self ..)), pcs_cut r (fun x hx => h x (List.mem_cons_of_mem _ hx))]
    rfl
theorem pcs_len : ∀ l : List UInt8, 1 ≤ (pcs l).length ∧ (pcs l).length ≤ l.length + 1
  | [] => ⟨Nat.le_refl _, Nat.le_refl _⟩
  | b :: l => by
    have := pcs_len l
    by_cases h : b = 47
    · subst h
      rw [pcs_slash]; simp only [List.length_cons]; omega
    · rw [pcs_other l h]; simp only [List.length_cons, List.length_tail]; omega
theorem pcs_eta (l : List UInt8) : pcs l = (pcs l).headD [] :: (pcs l).tail := by
  have := (pcs_len l).1
  match h : pcs l with
  | [] => rw [h] at this; simp at this
  | x :: xs => rfl
theorem pcs_last : ∀ l : List UInt8, pcs (l ++ [47]) = pcs l ++ [[]]
  | [] => by rw [List.nil_append, pcs_slash]; rfl
  | b :: l => by
    by_cases h : b = 47
    · subst h
      rw [List.cons_append, pcs_slash, pcs_slash, pcs_last l]; rfl
    · have e := pcs_eta l
      rw [List.cons_append, pcs_other _ h, pcs_other _ h, pcs_last l]
      rw [e]; rfl

/-- The names one behind the other, a slash ahead of each. -/
def cat : List (List UInt8) → List UInt8
  | [] => []
  | x :: L => 47 :: (x ++ cat L)
theorem cat_append (A B : List (List UInt8)) : cat (A ++ B) = cat A ++ cat B := by
  induction A with
  | nil => rfl
  | cons x A ih => rw [List.cons_append, cat, cat, ih, List.cons_append, List.append_assoc]
theorem cat_pcs : ∀ l : List UInt8, cat (pcs l) = 47 :: l
  | [] => rfl
  | b :: l => by
    have ih := cat_pcs l
    by_cases h : b = 47
    · subst h
      rw [pcs_slash, cat, ih]; rfl
    · rw [pcs_other l h]
      rw [pcs_eta l, cat] at ih
      rw [cat, List.cons_append, List.cons.inj ih |>.2]
theorem pcs_cat : ∀ (x : List UInt8) (L : List (List UInt8)), (∀ y ∈ x :: L, ∀ b ∈ y, b ≠ 47) → pcs (x ++ cat L) = x :: L
  | x, [], h => by rw [cat, List.append_nil]; exact pcs_none (h x (List.mem_cons_self ..))
  | x, y :: L, h => by
    rw [cat, pcs_cut _ (h x (List.mem_cons_self ..)), pcs_cat y L (fun z hz => h z (List.mem_cons_of_mem _ hz))]

/-- A name of these bytes. -/
def mayP (x : List UInt8) : Bool := mayN (str x)
theorem size_str (x : List UInt8) : (str x).size = x.length := by rw [← length_bytesOf]; rfl
theorem mayP_nil : mayP [] = false := by unfold mayP mayN; rw [size_str]; simp
theorem mayP_slash {x : List UInt8} (h : mayP x = true) : ∀ b ∈ x, b ≠ 47 := by
  unfold mayP mayN at h
  simp only [Bool.and_eq_true, decide_eq_true_eq] at h
  exact indexB_lt.1 h.2.2.2.1
theorem mayP_len {x : List UInt8} (h : mayP x = true) : 1 ≤ x.length ∧ x.length ≤ 40 := by
  unfold mayP mayN at h
  rw [size_str] at h
  simp only [Bool.and_eq_true, decide_eq_true_eq] at h
  exact ⟨by omega, by omega⟩

/-- Does Split take this text? -/
def splitB (t : List UInt8) : Bool := decide (t.length ≤ 200) && (decide (t.head? = some 47) && (decide (t = [47]) || (pcs t.tail).all mayP))
/-- Its names. -/
def splitN (t : List UInt8) : List (List UInt8) := if splitB t = true ∧ t ≠ [47] then pcs t.tail else []
def splitE (t : List UInt8) : Int := if splitB t = true then 0 else 13
theorem splitN_no {t : List UInt8} (h : splitB t = false) : splitN t = [] := by unfold splitN; rw [if_neg (by rw [h]; simp)]
theorem splitE_no {t : List UInt8} (h : splitB t = false) : splitE t = 13 := by unfold splitE; rw [if_neg (by rw [h]; simp)]
theorem splitE_yes {t : List UInt8} (h : splitB t = true) : splitE t = 0 := by unfold splitE; rw [if_pos h]
theorem splitB_root : splitB [47] = true := by decide
theorem splitN_root : splitN [47] = [] := by unfold splitN; rw [if_neg (by simp)]
theorem splitB_long {t : List UInt8} (h : 200 < t.length) : splitB t = false := by unfold splitB; rw [decide_eq_false (by omega)]; rfl
theorem splitB_head {t : List UInt8} (h : t.head? ≠ some 47) : splitB t = false := by unfold splitB; rw [decide_eq_false h]; simp
theorem splitB_cons {T : List UInt8} (h1 : T.length < 200) (h2 : T ≠ []) : splitB (47 :: T) = (pcs T).all mayP := by
  unfold splitB
  rw [decide_eq_true (by rw [List.length_cons]; omega), decide_eq_true (show (47 :: T : List UInt8).head? = some 47 from rfl), decide_eq_false (by intro h; exact h2 (List.cons.inj h).2)]
  rfl
theorem splitN_cons {T : List UInt8} (h1 : T.length < 200) (h2 : T ≠ []) (h : ∀ x ∈ pcs T, mayP x = true) : splitB (47 :: T) = true ∧ splitN (47 :: T) = pcs T := by
  have hb : splitB (47 :: T) = true := by rw [splitB_cons h1 h2, List.all_eq_true]; exact h
  refine ⟨hb, ?_⟩
  unfold splitN
  rw [if_pos ⟨hb, by intro h; exact h2 (List.cons.inj h).2⟩]
  rfl
theorem splitB_bad {T : List UInt8} (h1 : T.length < 200) (h2 : T ≠ []) {x : List UInt8} (hx : x ∈ pcs T) (h : mayP x = false) : splitB (47 :: T) = false := by
  rw [splitB_cons h1 h2, List.all_eq_false]
  exact ⟨x, hx, by rw [h]; simp⟩

/-- What Join answers. -/
def joinB (L : List (List UInt8)) : Bool := L.all mayP && decide ((cat L).length ≤ 200)
def joinL (L : List (List UInt8)) : List UInt8 := if L = [] then [47] else if joinB L = true then cat L else []
theorem joinL_nil : joinL [] = [47] := rfl
theorem cat_take_le (L : List (List UInt8)) (k : Nat) : (cat (L.take k)).length ≤ (cat L).length := by
  have := congrArg List.length (cat_append (L.take k) (L.drop k))
  rw [List.take_append_drop, List.length_append] at this
  omega
theorem cat_take {L : List (List UInt8)} {k : Nat} {x : List UInt8} (h : L[k]? = some x) : cat (L.take (k + 1)) = cat (L.take k) ++ 47 :: x := by
  rw [List.take_add_one, h, cat_append]
  show _ ++ 47 :: (x ++ []) = _
  rw [List.append_nil]
theorem join_may {L : List (List UInt8)} {k : Nat} {x : List UInt8} (h : L[k]? = some x) (hm : mayP x = false) : joinL L = [] := by
  unfold joinL
  rw [if_neg (by intro e; rw [e] at h; simp at h), if_neg]
  unfold joinB
  rw [show L.all mayP = false from by rw [List.all_eq_false]; exact ⟨x, List.mem_of_getElem? h, by rw [hm]; simp⟩]
  simp
theorem join_long {L : List (List UInt8)} {k : Nat} {x : List UInt8} (h : L[k]? = some x) (hm : 200 < (cat (L.take k)).length + 1 + x.length) : joinL L = [] := by
  unfold joinL
  rw [if_neg (by intro e; rw [e] at h; simp at h), if_neg]
  unfold joinB
  have := cat_take_le L (k + 1)
  rw [cat_take h, List.length_append, List.length_cons] at this
  rw [decide_eq_false (by omega)]
  simp
theorem join_done {L : List (List UInt8)} (h0 : L ≠ []) (hm : ∀ x ∈ L, mayP x = true) (hl : (cat L).length ≤ 200) : joinL L = cat L := by
  unfold joinL
  rw [if_neg h0, if_pos]
  unfold joinB
  rw [decide_eq_true hl, show L.all mayP = true from by rw [List.all_eq_true]; exact hm]
  rfl
theorem join_ne {L : List (List UInt8)} (h : joinL L ≠ []) : L = [] ∨ (L ≠ [] ∧ (∀ x ∈ L, mayP x = true) ∧ (cat L).length ≤ 200 ∧ joinL L = cat L) := by
  by_cases h0 : L = []
  · exact .inl h0
  · refine .inr ⟨h0, ?_⟩
    have hb : joinB L = true := by
      by_cases hb : joinB L = true
      · exact hb
      · exact absurd (by unfold joinL; rw [if_neg h0, if_neg hb]) h
    have hb' := hb
    unfold joinB at hb'
    simp only [Bool.and_eq_true, decide_eq_true_eq, List.all_eq_true] at hb'
    exact ⟨hb'.1, hb'.2, by unfold joinL; rw [if_neg h0, if_pos hb]⟩

/-- Split of Join. -/
theorem split_join {L : List (List UInt8)} (h : joinL L ≠ []) : splitB (joinL L) = true ∧ splitN (joinL L) = L ∧ (joinL L).length ≤ 200 := by
  rcases join_ne h with rfl | ⟨h0, hm, hl, e⟩
  · exact ⟨splitB_root, splitN_root, by decide⟩
  · rw [e]
    obtain ⟨x, L, rfl⟩ := List.exists_cons_of_ne_nil h0
    have hp := pcs_cat x L (fun y hy => mayP_slash (hm y hy))
    have hx := (mayP_len (hm x (List.mem_cons_self ..))).1
    rw [cat] at hl ⊢
    rw [List.length_cons] at hl
    have hs := splitN_cons (T := x ++ cat L) (by omega) (by intro e; rw [List.append_eq_nil_iff] at e; rw [e.1] at hx; simp at hx) (by rw [hp]; exact hm)
    exact ⟨hs.1, hs.2.trans hp, by rw [List.length_cons]; omega⟩
/-- What Split takes. -/
theorem split_yes {t : List UInt8} (h : splitB t = true) : t.length ≤ 200 ∧ ∃ T, t = 47 :: T ∧ ((T = [] ∧ splitN t = []) ∨ (T ≠ [] ∧ splitN t = pcs T ∧ ∀ x ∈ pcs T, mayP x = true)) := by
  have h' := h
  unfold splitB at h'
  simp only [Bool.and_eq_true, decide_eq_true_eq, Bool.or_eq_true, List.all_eq_true] at h'
  obtain ⟨h1, h2, h3⟩ := h'
  refine ⟨h1, ?_⟩
  match t, h2 with
  | b :: T, h2 =>
    cases h2
    refine ⟨T, rfl, ?_⟩
    by_cases h0 : T = []
    · subst h0
      exact .inl ⟨rfl, splitN_root⟩
    · rcases h3 with h3 | h3
      · exact absurd (List.cons.inj h3).2 h0
      · exact .inr ⟨h0, (splitN_cons (by rw [List.length_cons] at h1; omega) h0 h3).2, h3⟩
/-- Join of Split. -/
theorem join_split {t : List UInt8} (h : splitB t = true) : joinL (splitN t) = t ∧ ∀ x ∈ splitN t, mayP x = true := by
  obtain ⟨hl, T, rfl, ⟨rfl, e⟩ | ⟨h0, e, hm⟩⟩ := split_yes h
  · rw [e]; exact ⟨rfl, by simp⟩
  · rw [e]
    refine ⟨?_, hm⟩
    rw [join_done (by have := (pcs_len T).1; intro e; rw [e] at this; simp at this) hm (by rw [cat_pcs]; exact hl), cat_pcs]
/-- A slash more is none. -/
theorem split_more {t : List UInt8} (h : splitB t = true) : splitB (t ++ [47]) = false ∧ splitB (47 :: t) = false ∧ splitB t.tail = false := by
  obtain ⟨hl, T, rfl, hT⟩ := split_yes h
  have hbad : ∀ {U : List UInt8}, U ≠ [] → [] ∈ pcs U → splitB (47 :: U) = false := fun {U} h0 hU => by
    by_cases hlen : U.length < 200
    · exact splitB_bad hlen h0 hU mayP_nil
    · exact splitB_long (by rw [List.length_cons]; omega)
  refine ⟨?_, ?_, ?_⟩
  · rw [List.cons_append]
    exact hbad (by simp) (by rw [pcs_last]; simp)
  · exact hbad (by simp) (by rw [pcs_slash]; simp)
  · show splitB T = false
    refine splitB_head (fun hh => ?_)
    match T, hh with
    | b :: U, hh =>
      cases hh
      rcases hT with ⟨hn, _⟩ | ⟨_, _, hm⟩
      · cases hn
      · have := hm [] (by rw [pcs_slash]; simp)
        rw [mayP_nil] at this
        cases this

/-- What the document's Split goes through: up to a place no slash. -/
theorem pcs_slice {t : List UInt8} {a b : Nat} (hab : a ≤ b) (hc : ∀ j, a ≤ j → j < b → t.getD j 0 ≠ 47) (hb : b < t.length) (h : t.getD b 0 = 47) : pcs (t.drop a) = (t.drop a).take (b - a) :: pcs (t.drop (b + 1)) := by
  have e : t.drop a = (t.drop a).take (b - a) ++ 47 :: t.drop (b + 1) := by
    have h1 := List.take_append_drop (b - a) (t.drop a)
    rw [List.drop_drop, show a + (b - a) = b from by omega] at h1
    have h2 : t.drop b = 47 :: t.drop (b + 1) := by
      rw [List.drop_eq_getElem_cons hb]
      rw [List.getD_eq_getElem?_getD, List.getElem?_eq_getElem hb] at h
      rw [show t[b] = 47 from h]
    rw [h2] at h1
    exact h1.symm
  rw [e, pcs_cut]
  · rw [← e]
  · intro x hx
    obtain ⟨i, hi, rfl⟩ := List.getElem_of_mem hx
    have hi2 : i < b - a := by rw [List.length_take] at hi; omega
    have := hc (a + i) (by omega) (by omega)
    rw [List.getD_eq_getElem?_getD, List.getElem?_eq_getElem (by omega)] at this
    simp only [List.getElem_take, List.getElem_drop]
    exact this
theorem pcs_rest {t : List UInt8} {a : Nat} (hc : ∀ j, a ≤ j → j < t.length → t.getD j 0 ≠ 47) : pcs (t.drop a) = [t.drop a] := by
  refine pcs_none (fun x hx => ?_)
  obtain ⟨i, hi, rfl⟩ := List.getElem_of_mem hx
  rw [List.length_drop] at hi
  have := hc (a + i) (by omega) (by omega)
  rw [List.getD_eq_getElem?_getD, List.getElem?_eq_getElem (by omega)] at this
  simp only [List.getElem_drop]
  exact this
theorem extract_str (t : List UInt8) (a b : Nat) : (str t).extract a b = str ((t.drop a).take (b - a)) := by
  have h : ((str t).extract a b).data = (str ((t.drop a).take (b - a))).data := by
    rw [ByteArray.data_extract]
    apply Array.ext'
    simp [str]
  exact ByteArray.ext h
theorem append_str (a b : List UInt8) : str a ++ str b = str (a ++ b) := by
  have h : (str a ++ str b).data = (str (a ++ b)).data := by
    rw [ByteArray.data_append]
    simp [str]
  exact ByteArray.ext h
/-- A row of names. -/
def sv (x : List UInt8) : Value := .string (str x)
def Strs (w : World) (v : Value) (L : List (List UInt8)) : Prop := ∃ ad cap, v = .slice ad L.length cap ∧ At w ad (L.map sv)
theorem Strs.nil (w : World) (ad : Option Addr) (cap : Nat) : Strs w (.slice ad 0 cap) [] := ⟨ad, cap, rfl, At.nil _ _⟩
theorem Strs.quiet {w w' : World} {v : Value} {L : List (List UInt8)} (h : Strs w v L) (hg : w.grownBy w' none) : Strs w' v L := by
  obtain ⟨ad, cap, e, ha⟩ := h
  exact ⟨ad, cap, e, ha.grown hg (by intro a _ _ e; cases e)⟩
theorem Strs.cell {w : World} {ad : Option Addr} {L : List (List UInt8)} (h : At w ad (L.map sv)) {k : Nat} {x : List UInt8} (hk : L[k]? = some x) : ∃ g o, ad = some ⟨g, o, none⟩ ∧ w.cell? ⟨g, o + k, none⟩ = some (.string (str x)) :=
  h k _ (by rw [List.getElem?_map, hk]; rfl)
/-- What Split hands back. -/
def SplitIs (w : World) (t : List UInt8) (e : Ending) (w' : World) : Prop := ∃ v, e = .returned (.tuple #[v, .int .i64 (splitE t)]) ∧ Strs w' v (splitN t) ∧ w.grownBy w' none
theorem splitIs_no {w w' : World} {t : List UInt8} (h : splitB t = false) (hg : w.grownBy w' none) : SplitIs w t (.returned (.tuple #[.slice none 0 0, .int .i64 13])) w' :=
  ⟨_, by rw [splitE_no h], by rw [splitN_no h]; exact Strs.nil _ _ _, hg⟩
theorem splitIs_root {w w' : World} (hg : w.grownBy w' none) : SplitIs w [47] (.returned (.tuple #[.slice none 0 0, .int .i64 0])) w' :=
  ⟨_, by rw [splitE_yes splitB_root], by rw [splitN_root]; exact Strs.nil _ _ _, hg⟩
theorem splitIs_yes {w w' : World} {T : List UInt8} {v : Value} (h1 : T.length < 200) (h2 : T ≠ []) (h : ∀ x ∈ pcs T, mayP x = true) (hv : Strs w' v (pcs T)) (hg : w.grownBy w' none) : SplitIs w (47 :: T) (.returned (.tuple #[v, .int .i64 0])) w' := by
  obtain ⟨hb, hn⟩ := splitN_cons h1 h2 h
  exact ⟨_, by rw [splitE_yes hb], by rw [hn]; exact hv, hg⟩
end Go.Proofs.Ytljcmlcdamlbcaa
