/- RequestBack: what is got is put as it stood; what is put is got. -/
import Derived.Test.YtlphmpimpeekcaaBkMath
namespace Go.Proofs.Ytlphmpimpeekcaa
open Go.RowKit Go.Grommet

theorem getF_more {b : List UInt8} {s : GetS} {f : Fd} (ha : s.a ≤ b.length) (h : (getF b s f).t = false) (q : List UInt8) : getF (b ++ q) s f = getF b s f ∧ (getF b s f).a ≤ b.length ∧ s.t = false := by
  cases f <;> simp only [getF] at h ⊢
  all_goals
    first
    | (obtain ⟨e, h2, h3⟩ := numberR_more ha h q; rw [e]; exact ⟨rfl, h2, h3⟩)
    | (obtain ⟨e, h2, h3⟩ := textR_more ha h q; rw [e]; exact ⟨rfl, h2, h3⟩)
theorem byteR_cons (c : UInt8) (t : List UInt8) : byteR (c :: t) 0 false = (c.toNat, 1, false) := by unfold byteR; simp
theorem getL_more (c : UInt8) (t q : List UInt8) : ∀ n, (getL (c :: t) n).t = false → getL (c :: (t ++ q)) n = getL (c :: t) n ∧ (getL (c :: t) n).a ≤ (c :: t).length
  | 0, _ => by
    unfold getL get0
    rw [byteR_cons, byteR_cons]
    exact ⟨rfl, by simp⟩
  | n + 1, h => by
    have e1 : (byteR (c :: t) 0 false).1 = c.toNat := by rw [byteR_cons]
    have e2 : (byteR (c :: (t ++ q)) 0 false).1 = c.toNat := by rw [byteR_cons]
    cases hf : (flds c.toNat)[n]? with
    | none =>
      have g1 : getL (c :: t) (n + 1) = getL (c :: t) n := by unfold getL; rw [e1, List.take_add_one, hf]; simp
      have g2 : getL (c :: (t ++ q)) (n + 1) = getL (c :: (t ++ q)) n := by unfold getL; rw [e2, List.take_add_one, hf]; simp
      rw [g1] at h ⊢
      rw [g2]
      exact getL_more c t q n h
    | some f =>
      have g1 : getL (c :: t) (n + 1) = getF (c :: t) (getL (c :: t) n) f := getL_succ (by rw [e1]; exact hf)
      have g2 : getL (c :: (t ++ q)) (n + 1) = getF (c :: (t ++ q)) (getL (c :: (t ++ q)) n) f := getL_succ (by rw [e2]; exact hf)
      rw [g1] at h
      have ht : (getL (c :: t) n).t = false := by
        cases hx : (getL (c :: t) n).t with
        | false => rfl
        | true =>
          exfalso
          revert h
          cases f <;> simp [getF, numberR, textR, hx]
      obtain ⟨i1, i2⟩ := getL_more c t q n ht
      obtain ⟨j1, j2, _⟩ := getF_more i2 h q
      rw [g1, g2, i1]
      exact ⟨j1, j2⟩
/-- Behind its bytes others change nothing. -/
theorem getE_more {b : List UInt8} (h : (getE b).t = false) (hb : b ≠ []) (q : List UInt8) : getE (b ++ q) = getE b := by
  cases b with
  | nil => exact absurd rfl hb
  | cons c t =>
    unfold getE at h ⊢
    rw [List.cons_append, byteR_cons, byteR_cons] at *
    exact (getL_more c t q _ h).1
theorem getB_parts {b : List UInt8} (h : getB b = true) : (getE b).b = true ∧ (getE b).t = false ∧ (getE b).a = b.length ∧ mayQ (getE b).r = true := by
  unfold getB at h
  simp only [Bool.and_eq_true, Bool.not_eq_true', decide_eq_true_eq] at h
  exact ⟨h.1, h.2.1.1, h.2.1.2, h.2.2⟩
theorem getE_nil : (getE []).t = true := by
  unfold getE getL get0
  rfl
/-- Two rows of bytes, one the other with more behind it, are not both requests. -/
theorem getB_apart {b q : List UInt8} (h : getB b = true) (hq : q ≠ []) : getB (b ++ q) = false := by
  obtain ⟨h1, h2, h3, h4⟩ := getB_parts h
  have hb : b ≠ [] := fun e => by subst e; rw [getE_nil] at h2; cases h2
  have e := getE_more h2 hb q
  cases hx : getB (b ++ q) with
  | false => rfl
  | true =>
    obtain ⟨_, _, k3, _⟩ := getB_parts hx
    rw [e, h3, List.length_append] at k3
    have : 0 < q.length := List.length_pos_iff.2 hq
    omega

theorem numberR_back {b : List UInt8} {a : Nat} {t : Bool} (h : (numberR b a t).2.2 = false) : b.take (numberR b a t).2.1 = b.take a ++ num (numberR b a t).1 := by
  unfold numberR at h ⊢
  cases t with
  | true => simp at h
  | false =>
    simp only [Bool.false_eq_true, if_false] at h ⊢
    cases hn : numAt (b.drop a) with
    | none => rw [hn] at h; simp at h
    | some nk =>
      obtain ⟨n, k⟩ := nk
      simp only
      rw [(numAt_back _ _ _ hn).1, List.take_add]
theorem textR_back {b : List UInt8} {a : Nat} {t : Bool} {m : Int} (h : (textR b a t m).2.2 = false) : b.take (textR b a t m).2.1 = b.take a ++ (num (textR b a t m).1.length ++ (textR b a t m).1) := by
  unfold textR at h ⊢
  cases t with
  | true => simp at h
  | false =>
    simp only [Bool.false_eq_true, if_false] at h ⊢
    cases hn : numAt (b.drop a) with
    | none => rw [hn] at h; simp at h
    | some nk =>
      obtain ⟨n, k⟩ := nk
      rw [hn] at h
      simp only at h ⊢
      split at h
      · simp at h
      · rename_i hc
        rw [if_neg hc]
        have c3 : a + k + n ≤ b.length := by
          by_cases hx : b.length < a + k + n
          · exact absurd (.inr (.inr hx)) hc
          · omega
        have hl : ((b.drop (a + k)).take n).length = n := by rw [List.length_take, List.length_drop]; omega
        simp only
        rw [hl, (numAt_back _ _ _ hn).1, List.take_add (i := a + k), List.take_add, List.append_assoc]
theorem str_size (l : List UInt8) : (str l).size = l.length := by show l.toArray.size = _; rw [List.size_toArray]
theorem getF_back {b : List UInt8} {s : GetS} {f : Fd} (h : (getF b s f).t = false) (hb : (getF b s f).b = true) : b.take (getF b s f).a = b.take s.a ++ (getF b s f).r.put f ∧ s.b = true ∧ s.t = false := by
  cases f <;> simp only [getF, Rq.put] at h hb ⊢
  all_goals
    try simp only [Bool.and_eq_true, decide_eq_true_eq] at hb
  all_goals
    first
    | (refine ⟨by rw [str_size, bytesOf_str]; exact textR_back h, hb, ?_⟩
       cases ht : s.t with
       | false => rfl
       | true => rw [ht] at h; simp [textR] at h)
    | (refine ⟨by (try rw [Nat.mod_eq_of_lt (by omega)]); exact numberR_back h, hb.1, ?_⟩
       cases ht : s.t with
       | false => rfl
       | true => rw [ht] at h; simp [numberR] at h)
theorem getF_other {b : List UInt8} {s : GetS} {f g : Fd} (h : f ≠ g) : (getF b s f).r.put g = s.r.put g := by
  cases f <;> cases g <;> first | exact absurd rfl h | rfl
theorem flds_shape (k : Nat) : flds k = [] ∨ (∃ f, flds k = [f]) ∨ ∃ f g, f ≠ g ∧ flds k = [f, g] := by
  unfold flds
  split
  all_goals first | exact .inl rfl | exact .inr (.inl ⟨_, rfl⟩) | exact .inr (.inr ⟨_, _, (fun e => by cases e), rfl⟩)
theorem getE_k (b : List UInt8) : (getE b).r.k = (byteR b 0 false).1 := by
  have : ∀ n, (getL b n).r.k = (byteR b 0 false).1 := by
    intro n
    induction n with
    | zero => rfl
    | succ n ih =>
      cases hf : (flds (byteR b 0 false).1)[n]? with
      | none =>
        have : getL b (n + 1) = getL b n := by unfold getL; rw [List.take_add_one, hf]; simp
        rw [this]; exact ih
      | some f => rw [getL_succ hf, getF_k]; exact ih
  exact this _
/-- What is got is put as it stood. -/
theorem got_put {b : List UInt8} (h : getB b = true) : putQ (getE b).r = b := by
  obtain ⟨h1, h2, h3, h4⟩ := getB_parts h
  have hk := getE_k b
  cases b with
  | nil => rw [getE_nil] at h2; cases h2
  | cons c t =>
    rw [byteR_cons] at hk
    have e0 : get0 (c :: t) = ⟨{ zeroRq with k := c.toNat }, 1, false, true⟩ := by unfold get0; rw [byteR_cons]
    have e0a : (get0 (c :: t)).a = 1 := by rw [e0]
    have eq : putQ (getE (c :: t)).r = UInt8.ofNat c.toNat :: (flds c.toNat).flatMap (getE (c :: t)).r.put := by
      unfold putQ; rw [if_pos h4]; unfold putL; rw [hk, List.take_length]
    have ec : UInt8.ofNat c.toNat = c := UInt8.ofNat_toNat
    rw [eq, ec]
    have eE : getE (c :: t) = (flds c.toNat).foldl (getF (c :: t)) (get0 (c :: t)) := by
      unfold getE getL; rw [byteR_cons, List.take_length]
    have hall : (c :: t).take (getE (c :: t)).a = c :: t := by rw [h3, List.take_length]
    rcases flds_shape c.toNat with hf | ⟨f, hf⟩ | ⟨f, g, hne, hf⟩
    · rw [hf] at eE ⊢
      simp only [List.foldl_nil, List.flatMap_nil] at eE ⊢
      rw [eE, e0a] at hall
      exact hall
    · rw [hf] at eE ⊢
      simp only [List.foldl_cons, List.foldl_nil, List.flatMap_cons, List.flatMap_nil, List.append_nil] at eE ⊢
      rw [eE] at h1 h2 hall ⊢
      obtain ⟨k1, _, _⟩ := getF_back h2 h1
      rw [hall, e0a] at k1
      exact k1.symm
    · rw [hf] at eE ⊢
      simp only [List.foldl_cons, List.foldl_nil, List.flatMap_cons, List.flatMap_nil, List.append_nil] at eE ⊢
      rw [eE] at h1 h2 hall ⊢
      obtain ⟨k1, k2, k3⟩ := getF_back h2 h1
      obtain ⟨j1, _, _⟩ := getF_back k3 k2
      rw [hall, j1, e0a, List.append_assoc] at k1
      rw [getF_other (Ne.symm hne)]
      exact k1.symm

def setF (s r : Rq) : Fd → Rq
  | .path => { s with p := r.p }
  | .flags => { s with fl := r.fl }
  | .fd => { s with fd := r.fd }
  | .size => { s with sz := r.sz }
  | .data => { s with d := r.d }
  | .at => { s with at_ := r.at_ }
  | .to => { s with t := r.t }
theorem numberR_fwd {P Q : List UInt8} {n : Nat} (h : n < 2 ^ 64) : numberR (P ++ (num n ++ Q)) P.length false = (n, P.length + (num n).length, false) := by
  unfold numberR
  simp only [Bool.false_eq_true, if_false]
  rw [List.drop_append_of_le_length (Nat.le_refl _), List.drop_length, List.nil_append, numAt_num h]
theorem textR_fwd {P Q : List UInt8} {s : List UInt8} {m : Int} (h : (s.length : Int) ≤ m) (hm : m ≤ 1000000) : textR (P ++ ((num s.length ++ s) ++ Q)) P.length false m = (s, P.length + (num s.length ++ s).length, false) := by
  unfold textR
  simp only [Bool.false_eq_true, if_false]
  rw [List.drop_append_of_le_length (Nat.le_refl _), List.drop_length, List.nil_append, List.append_assoc, numAt_num (by omega)]
  simp only
  rw [if_neg (by rw [List.length_append, List.length_append, List.length_append]; omega)]
  rw [← List.append_assoc P, ← List.length_append, List.drop_append_of_le_length (Nat.le_refl _), List.drop_length, List.nil_append, List.take_append_of_le_length (Nat.le_refl _), List.take_length]
  simp only [List.length_append, Nat.add_assoc]
theorem getF_fwd {P Q : List UInt8} {s : GetS} {r : Rq} (hr : r.Ok) {f : Fd} (hf : r.fits f = true) (h1 : s.t = false) (h2 : s.a = P.length) : getF (P ++ (r.put f ++ Q)) s f = ⟨setF s.r r f, P.length + (r.put f).length, false, s.b⟩ := by
  have b1 := hr.fl; have b2 := hr.fd; have b3 := hr.at_; have b4 := hr.sz
  cases f <;> simp only [Rq.fits, decide_eq_true_eq] at hf <;> simp only [getF, Rq.put, setF, h1, h2]
  · rw [← length_bytesOf, textR_fwd (by rw [length_bytesOf]; omega) (by decide), str_bytesOf]
  · rw [numberR_fwd (by omega)]; simp [hf, Nat.mod_eq_of_lt b1]
  · rw [numberR_fwd (by omega)]; simp [hf]
  · rw [numberR_fwd (by omega)]; simp [hf]
  · rw [← length_bytesOf, textR_fwd (by rw [length_bytesOf]; omega) (by decide), str_bytesOf]
  · rw [numberR_fwd (by omega)]; simp [hf]
  · rw [← length_bytesOf, textR_fwd (by rw [length_bytesOf]; omega) (by decide), str_bytesOf]
theorem size_zero {s : ByteArray} (h : s.size = 0) : s = ⟨#[]⟩ := by
  have : s.data = #[] := Array.eq_empty_of_size_eq_zero h
  cases s; simp only at this; rw [this]
/-- Of a request that may be: its fields are such, and it has no others. -/
theorem may_parts {r : Rq} (h : mayQ r = true) : (∀ f ∈ flds r.k, r.fits f = true) ∧ (flds r.k).foldl (fun s f => setF s r f) { zeroRq with k := r.k } = r := by
  obtain ⟨h1, h2⟩ := isKind_may h
  obtain ⟨k, fl, fd, at_, sz, p, t, d⟩ := r
  simp only at h1 h2
  have hk : k = 1 ∨ k = 2 ∨ k = 3 ∨ k = 4 ∨ k = 5 ∨ k = 6 ∨ k = 7 ∨ k = 8 ∨ k = 9 ∨ k = 10 ∨ k = 11 ∨ k = 12 ∨ k = 13 := by omega
  rcases hk with rfl | rfl | rfl | rfl | rfl | rfl | rfl | rfl | rfl | rfl | rfl | rfl | rfl
  all_goals
    simp only [mayQ, awayL, flds, awayS, Rq.away, Rq.fits, Rq.bare, isKind, List.length_cons, List.length_nil, List.take_succ_cons, List.take_nil, List.foldl_cons, List.foldl_nil, Bool.and_eq_true, decide_eq_true_eq, beq_iff_eq] at h
    simp only [flds, List.mem_cons, List.not_mem_nil, or_false, forall_eq_or_imp, forall_eq, Rq.fits, decide_eq_true_eq, List.foldl_cons, List.foldl_nil, setF, zeroRq]
  all_goals
    obtain ⟨hA, ⟨⟨⟨⟨⟨⟨x1, x2⟩, x3⟩, x4⟩, x5⟩, x6⟩, x7⟩⟩ := h
    refine ⟨by first | exact hA.2 | exact ⟨hA.1.2, hA.2⟩, ?_⟩
    congr 1
    all_goals first | rfl | exact x1.symm | exact x2.symm | exact x3.symm | exact x4.symm | exact (size_zero x5).symm | exact (size_zero x6).symm | exact (size_zero x7).symm
/-- What is put is got. -/
theorem put_got {r : Rq} (hr : r.Ok) (hm : mayQ r = true) : getE (putQ r) = ⟨r, (putQ r).length, false, true⟩ := by
  obtain ⟨hfit, hset⟩ := may_parts hm
  have eq : putQ r = UInt8.ofNat r.k :: (flds r.k).flatMap r.put := by unfold putQ; rw [if_pos hm]; unfold putL; rw [List.take_length]
  have ek : (UInt8.ofNat r.k).toNat = r.k := by have := hr.k; rw [UInt8.toNat_ofNat']; omega
  rw [eq]
  obtain ⟨c, hc⟩ : ∃ c, UInt8.ofNat r.k = c := ⟨_, rfl⟩
  rw [hc] at ek ⊢
  have eE : ∀ t, getE (c :: t) = (flds r.k).foldl (getF (c :: t)) ⟨{ zeroRq with k := r.k }, 1, false, true⟩ := by
    intro t
    unfold getE getL get0; rw [byteR_cons, ek]
    show ((flds r.k).take (flds r.k).length).foldl _ _ = _
    rw [List.take_length]
  rw [eE]
  rcases flds_shape r.k with hf | ⟨f, hf⟩ | ⟨f, g, hne, hf⟩
  · exfalso
    have hk := isKind_may hm
    have : r.k = 1 ∨ r.k = 2 ∨ r.k = 3 ∨ r.k = 4 ∨ r.k = 5 ∨ r.k = 6 ∨ r.k = 7 ∨ r.k = 8 ∨ r.k = 9 ∨ r.k = 10 ∨ r.k = 11 ∨ r.k = 12 ∨ r.k = 13 := by omega
    rcases this with h | h | h | h | h | h | h | h | h | h | h | h | h <;> rw [h] at hf <;> cases hf
  · rw [hf] at hfit hset ⊢
    simp only [List.foldl_cons, List.foldl_nil, List.flatMap_cons, List.flatMap_nil, List.append_nil] at hset ⊢
    have h1 := getF_fwd (P := [c]) (Q := []) (s := ⟨{ zeroRq with k := r.k }, 1, false, true⟩) hr (f := f) (hfit f (by simp)) rfl rfl
    rw [List.append_nil] at h1
    rw [show c :: r.put f = [c] ++ r.put f from rfl, h1, hset, List.length_append]
  · rw [hf] at hfit hset ⊢
    simp only [List.foldl_cons, List.foldl_nil, List.flatMap_cons, List.flatMap_nil, List.append_nil] at hset ⊢
    have h1 := getF_fwd (P := [c]) (Q := r.put g) (s := ⟨{ zeroRq with k := r.k }, 1, false, true⟩) hr (f := f) (hfit f (by simp)) rfl rfl
    have h2 := getF_fwd (P := [c] ++ r.put f) (Q := []) (s := ⟨setF { zeroRq with k := r.k } r f, [c].length + (r.put f).length, false, true⟩) hr (f := g) (hfit g (by simp)) rfl (by rw [List.length_append])
    rw [List.append_nil, List.append_assoc] at h2
    rw [show c :: (r.put f ++ r.put g) = [c] ++ (r.put f ++ r.put g) from rfl, h1, h2, hset]
    simp only [List.length_append, Nat.add_assoc]
theorem put_getB {r : Rq} (hr : r.Ok) (hm : mayQ r = true) : getB (putQ r) = true := by
  unfold getB; rw [put_got hr hm]; simp [hm]
theorem put_getR {r : Rq} (hr : r.Ok) (hm : mayQ r = true) : getR (putQ r) = r ∧ getN (putQ r) = 0 := by
  unfold getR getN; rw [put_getB hr hm, put_got hr hm]; exact ⟨rfl, rfl⟩
/-- Cut, it is none. -/
theorem put_cut {r : Rq} (hr : r.Ok) (hm : mayQ r = true) {j : Nat} (hj : j < (putQ r).length) : getB ((putQ r).take j) = false := by
  cases hx : getB ((putQ r).take j) with
  | false => rfl
  | true =>
    have := getB_apart hx (q := (putQ r).drop j) (by intro e; have := congrArg List.length e; rw [List.length_drop] at this; simp at this; omega)
    rw [List.take_append_drop, put_getB hr hm] at this
    cases this
/-- Unlike requests have unlike bytes. -/
theorem put_inj {r o : Rq} (hr : r.Ok) (ho : o.Ok) (hm : mayQ r = true) (hn : mayQ o = true) (h : putQ o = putQ r) : o = r := by
  have h1 := put_got hr hm
  have h2 := put_got ho hn
  rw [h, h1] at h2
  injection h2 with h3
  exact h3.symm
end Go.Proofs.Ytlphmpimpeekcaa
