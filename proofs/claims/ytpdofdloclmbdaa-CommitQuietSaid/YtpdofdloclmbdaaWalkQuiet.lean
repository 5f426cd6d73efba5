/- CommitQuiet, walked. -/
import Derived.Test.YtpdofdloclmbdaaPk26
import Derived.Test.YtpdofdloclmbdaaPk25
import Derived.Test.YtpdofdloclmbdaaWorks
import Derived.Deep.DeepCutAuto
import Derived.BigQuiet
import Derived.Deep.QuietTactic
import Derived.Deep.RegionHeld
namespace Go.Proofs.Ytpdofdloclmbdaa.commitQuiet
open Go.RowKit Go.Grommet
set_option linter.unusedVariables false

set_option maxRecDepth 100000 in
set_option maxHeartbeats 1000000 in
theorem walk_far (a0 a1 : Int) (td : Option Addr) (tl tc : Nat) (w : World) (h : 40 < tl) :
    Calls Try.prog 4 #[.int .u8 a0, .int .u8 a1, .slice td tl tc] w (Go.Ev.WorksIs w) := by
  have HW := Lib.hid (works_ev w)
  have g1 : (40 : Int) < (tl : Int) := by omega
  go_enter Try.func4, Try.ntmps4
  go_wp2_with fail
  refine HW.out.mono ?_
  rintro e w5 ⟨rfl, hg⟩
  go_wp2
  go_ret
  exact ⟨rfl, hg⟩

theorem geo2 {w0 w : World} {Ps : List Pr} {k G : Nat} {a : Nat} (h : Grommet.Own w0 w Ps) (hk : Ps[k]? = some (boxP G 25 #[.int .i64 (a : Int), .int .i64 2, .int .i64 10])) : w.cell? ⟨G, 0, none⟩ = some (.int .i64 (a : Int)) ∧ w.cell? ⟨G, 1, none⟩ = some (.int .i64 2) ∧ w.cell? ⟨G, 2, none⟩ = some (.int .i64 10) := GeoQ.cells (show GeoQ G (a : Int) 2 10 w from h.box k hk)

set_option maxRecDepth 100000 in
set_option maxHeartbeats 8000000 in
theorem walk_at (x0 x1 : Nat) (td : Option Addr) (tl tc : Nat) (T : List Cpt) (w : World) (h0 : x0 ≤ 255) (h1 : x1 ≤ 255) (htl : tl ≤ 40) (hT : CptsIn w td tl T) :
    Calls Try.prog 4 #[.int .u8 (x0 : Int), .int .u8 (x1 : Int), .slice td tl tc] w (Go.Ev.WorksIs w) := by
  have g1 : ¬ (40 : Int) < (tl : Int) := by omega
  have HT := Lib.hid hT
  obtain ⟨m4, hm4⟩ : ∃ m, x0 % 4 = m := ⟨_, rfl⟩
  obtain ⟨a, ha⟩ : ∃ a, 1 + m4 = a := ⟨_, rfl⟩
  have e1 : (x0 : Int) % 4 = (m4 : Int) := by omega
  have e2 : Int.tmod (x0 : Int) 4 = (m4 : Int) := by rw [Int.tmod_eq_emod_of_nonneg (by omega)]; exact e1
  have e3 : IntKind.i64.wrap (x0 : Int) = (x0 : Int) := IntWalk.i64_in _ ⟨by omega, by omega⟩
  have e4 : IntKind.i64.wrap (m4 : Int) = (m4 : Int) := IntWalk.i64_in _ ⟨by omega, by omega⟩
  have e5 : IntKind.i64.wrap (1 + (m4 : Int)) = (a : Int) := by rw [IntWalk.i64_in _ ⟨by omega, by omega⟩]; omega
  have e6 : 1 + (m4 : Int) = (a : Int) := by omega
  have ha1 : 1 ≤ a ∧ a ≤ 4 := by omega
  have hmay : mayB (a : Int) ((2 : Nat) : Int) ((10 : Nat) : Int) = true := by unfold mayB; simp; omega
  obtain ⟨N, hN⟩ : ∃ N, 280 + 208 * a + 16 * 2 + 8 * 10 = N := ⟨_, rfl⟩
  obtain ⟨M, hM⟩ : ∃ M, N / 8 = M := ⟨_, rfl⟩
  have hNM : N = 8 * M := by omega
  obtain ⟨k, hk⟩ : ∃ k, x1 % a = k := ⟨_, rfl⟩
  have hka : k < a := by rw [← hk]; exact Nat.mod_lt _ (by omega)
  have f1 : (x1 : Int) % (a : Int) = (k : Int) := by omega
  have f2 : Int.tmod (x1 : Int) (a : Int) = (k : Int) := by rw [Int.tmod_eq_emod_of_nonneg (by omega)]; exact f1
  have f3 : IntKind.i64.wrap (x1 : Int) = (x1 : Int) := IntWalk.i64_in _ ⟨by omega, by omega⟩
  have f4 : IntKind.i64.wrap (k : Int) = (k : Int) := IntWalk.i64_in _ ⟨by omega, by omega⟩
  have az : ¬ (a : Int) = 0 := by omega
  have azn : ¬ a = 0 := by omega
  have azb : ((a : Int) == 0) = false := by rw [beq_eq_false_iff_ne]; omega
  obtain ⟨A, hA⟩ : ∃ A, 264 + 208 * k = A := ⟨_, rfl⟩
  obtain ⟨B, hB⟩ : ∃ B, 280 + 208 * a + 32 + 8 * (1 + 2 * k) = B := ⟨_, rfl⟩
  have hxl := length_fmtL a 2 10 (264 + 208 * a) (280 + 208 * a + 16 * 2 + 8 * 10)
  have hxs := fmtL_lt a 2 10 (264 + 208 * a) (280 + 208 * a + 16 * 2 + 8 * 10) (by omega) (by omega) (by omega)
  rw [hN] at hxl hxs
  obtain ⟨xs, hx0⟩ : ∃ xs, fmtL a 2 10 (264 + 208 * a) N = xs := ⟨_, rfl⟩
  rw [hx0] at hxl hxs
  have HF := Lib.hid (fun wx Ps hO => FormatH a 2 10 N xs w wx Ps hO hmay (by omega) hx0)
  have HD := Lib.hid (fun wx m ad cap Ps hO hm => deviceH m ad N cap xs w wx Ps hO hm hxl hxs (by omega) (by omega) (by omega))
  have HNw := Lib.hid (fun wx j d ws Ps hO hj (hl : ws.length = N) => RNewH j d a 2 10 k A ws w wx Ps hO hj (by unfold areaV; rw [if_pos ⟨hmay, by omega, by omega⟩]; omega) (by rw [hl, words_pos hmay]; omega))
  have HWr := Lib.hid (fun wx Ps hO => writesH a 2 10 k B td tl tc T w wx Ps hO hT htl (by unfold blockV; rw [if_pos ⟨hmay, by omega, by omega⟩]; omega) (by omega) (by omega))
  have HA8 : Hid (A % 8 = 0 ∧ A + 208 ≤ 264 + 208 * a ∧ 280 + 208 * a + 32 ≤ B ∧ B + 16 ≤ N ∧ N = 8 * M ∧ N ≤ 2000 ∧ N = 392 + 208 * a) := Lib.hid ⟨by omega, by omega, by omega, by omega, hNM, by omega, by omega⟩
  have Hmay := Lib.hid hmay
  have hM1 : M ≤ 300 := by omega
  rw [show ((2 : Nat) : Int) = 2 from rfl, show ((10 : Nat) : Int) = 10 from rfl] at HF HNw HWr
  unfold gv at HNw HWr
  unfold DevAns at HD
  unfold ptr at HD HNw
  have Hxl := Lib.hid hxl
  have Hxs := Lib.hid hxs
  have Hzero : Hid (∀ i, 264 ≤ i → i < 264 + 208 * a → xs.getD i 0 = 0) := Lib.hid (fun i hi1 hi2 => by
    rw [← hx0, List.getD_eq_getElem?_getD, get_fmtL _ _ _ _ _ _ (by omega)]
    show fmtAt a 2 10 (264 + 208 * a) i = 0
    unfold fmtAt
    repeat' (first | rw [if_neg (by omega)] | (split <;> first | omega | rfl)))
  have HkA : Hid (264 + 208 * k = A) := Lib.hid hA
  have Hka := Lib.hid hka
  have hmay2 := hmay
  rw [show ((2 : Nat) : Int) = 2 from rfl, show ((10 : Nat) : Int) = 10 from rfl] at hmay2
  have HAt := Lib.hid (fun wx => AreaAt_any (a : Int) 2 10 (k : Int) wx)
  rw [show areaV (a : Int) 2 10 (k : Int) = (A : Int) from by unfold areaV; rw [if_pos ⟨hmay2, by omega, by omega⟩]; omega] at HAt
  unfold gv at HAt
  have Hmay2 := Lib.hid hmay2
  clear hmay2 hT hm4 ha hmay hN hM hNM hk hA hB hxl hxs hx0
  go_enter Try.func4, Try.ntmps4
  obtain ⟨u1, hu1⟩ : ∃ u, w.alloc (.cells #[.int .i64 (a : Int), .int .i64 2, .int .i64 10] 25) = u := ⟨_, rfl⟩
  obtain ⟨G, hG⟩ : ∃ G, w.heap.size = G := ⟨_, rfl⟩
  have hO1 : Grommet.Own w u1 [boxP G 25 #[.int .i64 (a : Int), .int .i64 2, .int .i64 10]] := by rw [← hu1, ← hG]; exact (Own.nil w).addBox _ _
  obtain ⟨c0, c1, c2⟩ := geo2 hO1 (k := 0) rfl
  have hO1 := Lib.hid hO1
  go_wp2_with fail
  refine (HF.out u1 _ hO1.out).mono ?_
  rintro e u2 ⟨q, rfl, hO2⟩
  have HD2 := Lib.hid (HD.out u2 1 (some ⟨q, 0, none⟩) N _ hO2 rfl)
  clear hu1 hG hO1 c0 c1 c2 HF HD hO2
  go_wp2_with fail
  refine HD2.out.mono ?_
  rintro e u3 ⟨d, r, rfl, hO3⟩
  have hO3 : Grommet.Own w u3 [boxP G 25 #[.int .i64 (a : Int), .int .i64 2, .int .i64 10], rowP 39 1 (.slice (some ⟨q, 0, none⟩) N N) N (xs.map wv), devP d (cleanL xs)] := hO3
  have HN3 := Lib.hid (HNw.out u3 2 d _ _ hO3 rfl (by rw [cleanL_len]; exact Hxl.out))
  obtain ⟨c0, c1, c2⟩ := geo2 hO3 (k := 0) rfl
  clear HD2 HNw hO3
  go_wp2_with fail
  refine HN3.out.mono ?_
  rintro e u4 ⟨R, rfl, hO4⟩
  have hO4 : Grommet.Own w u4 [boxP G 25 #[.int .i64 (a : Int), .int .i64 2, .int .i64 10], rowP 39 1 (.slice (some ⟨q, 0, none⟩) N N) N (xs.map wv), devP d (cleanL xs), runP R d (a : Int) 2 10 A [] [] []] := hO4
  have HW4 := Lib.hid (HWr.out u4 _ hO4)
  clear c0 c1 c2 HN3 HWr
  obtain ⟨c0, c1, c2⟩ := geo2 hO4 (k := 0) rfl
  clear hO4
  go_wp2_with fail
  refine HW4.out.mono ?_
  rintro e u5 ⟨W, n, ad, cap, rfl, hWl, hnt, hGW, hO5⟩
  have hO5 : Hid (Grommet.Own w u5 [boxP G 25 #[.int .i64 (a : Int), .int .i64 2, .int .i64 10], rowP 39 1 (.slice (some ⟨q, 0, none⟩) N N) N (xs.map wv), devP d (cleanL xs), runP R d (a : Int) 2 10 A [] [] [], rowP 41 2 (.slice ad n cap) n (icells W)]) := Lib.hid hO5
  have HWl := Lib.hid hWl
  have HGW := Lib.hid hGW
  have hn40 : n ≤ 40 := by omega
  have hwq : ∀ x ∈ W, 0 ≤ x.1 ∧ x.1.toNat < N ∧ x.1.toNat / 8 < M ∧ x.1 < 1000000 ∧ 264 + 208 * a ≤ x.1.toNat := fun x hx => by
    obtain ⟨s, hs, e⟩ := HGW.out.at_ x hx
    have := HA8.out
    omega
  have HQ : Hid (QIs a k n W xs) := Lib.hid ⟨good_may (a := a) (b := 2) (c := 10) HGW.out Hmay.out (by rw [HWl.out]; omega) (by have := HA8.out; omega) (by have := HA8.out; omega), ⟨fun p hp => by have := hwq p hp; omega, HGW.out.val, by rw [HWl.out]; omega⟩, HWl.out, Hka.out, hn40, by rw [Hxl.out]; have := HA8.out; omega, Hzero.out, fun qq hq => by
    unfold wrQ at hq
    obtain ⟨p, hp, rfl⟩ := List.mem_map.1 hq
    exact (hwq p hp).2.2.2.2⟩
  have HDs := Lib.hid (doesH 1 4 q N N xs ad n cap W w u5 _ hO5.out rfl rfl Hxl.out Hxs.out (by have := HA8.out; omega) (by have := HA8.out; omega) HWl.out (by omega) (fun x hx => ⟨(hwq x hx).1, (hwq x hx).2.1⟩))
  clear c0 c1 c2 HW4 hWl hGW hnt hO5
  go_wp2_with fail
  refine HDs.out.mono ?_
  rintro e u6 ⟨ad5, cp5, rfl, hO6⟩
  have hO6 : Grommet.Own w u6 [boxP G 25 #[.int .i64 (a : Int), .int .i64 2, .int .i64 10], rowP 39 1 (.slice (some ⟨q, 0, none⟩) N N) N (xs.map wv), devP d (cleanL xs), runP R d (a : Int) 2 10 A [] [] [], rowP 41 2 (.slice ad n cap) n (icells W), rowP 39 1 (.slice ad5 N cp5) N ((putQ xs (wrQ W)).map wv)] := hO6
  obtain ⟨dn, hdn⟩ : ∃ dn, putQ xs (wrQ W) = dn := ⟨_, rfl⟩
  have hdl : dn.length = N := by rw [← hdn, putQ_len, Hxl.out]
  have hN0 : 0 < N := by have := HA8.out; omega
  rw [hdn] at hO6
  obtain ⟨q5, rfl, _, _, hcp5⟩ := Own.cell hO6 5 rfl 0 (wv (dn.getD 0 0)) (by rw [List.getElem?_map, List.getElem?_eq_getElem (by omega), List.getD_eq_getElem?_getD, List.getElem?_eq_getElem (by omega)]; rfl)
  obtain ⟨Sb, hSb⟩ : ∃ S, beginS M A W = S := ⟨_, rfl⟩
  obtain ⟨tot, htot⟩ : ∃ t, Sb.length = t := ⟨_, rfl⟩
  have ht1 : tot < 1000 := by
    have e1 := sealS_len M A (recR W)
    have e2 := markS_len M 3 A (markV (recR W))
    have e3 := settleS_len M 5 ((wrQ W).map (·.1))
    have e4 := markS_len M 6 A 0
    have e5 : (wrQ W).length = n := by unfold wrQ; rw [List.length_map, HWl.out]
    have e6 : (recR W).length = 2 + 2 * n := by rw [recR_length, HWl.out]
    have e7 := HA8.out
    rw [← htot, ← hSb]
    unfold beginS applyS
    simp only [List.length_append, storesS_len]
    omega
  have HBg := Lib.hid (BeginH 3 4 R d (a : Int) 2 10 A [] [] ad n cap W M w u6 _ hO6 rfl rfl (by decide) HWl.out HQ.out.may HGW.out.val (fun x hx => ⟨(hwq x hx).1, (hwq x hx).2.2.1, (hwq x hx).2.2.2.1⟩) (by have := HA8.out; omega) (by have := HA8.out; omega) (by omega))
  rw [hSb] at HBg
  have Hok : Hid (∀ s ∈ Sb, s.2.ok N) := Lib.hid (by
    rw [← hSb]
    refine ok_begin M A N W (by have := HA8.out; omega) (by rw [recR_length, HWl.out]; have := HA8.out; omega) (recR_small (fun p hp => ⟨by have := hwq p hp; omega, HGW.out.val p hp⟩) (by rw [HWl.out]; omega)) (fun p hp => ⟨(hwq p hp).2.1, HGW.out.val p hp⟩) (markV_lt _))
  have Hdev : Hid (∀ t, (doAll (Sb.take t) (cleanL xs)).length = 8 * M) := Lib.hid (fun t => by rw [doAll_len, cleanL_len, Hxl.out]; exact HA8.out.2.2.2.2.1)
  have Hseen : Hid (∀ t, (doAll (Sb.take t) (cleanL xs)).map (·.seen) = putQ xs (stQ (Sb.take t))) := Lib.hid (fun t => by
    have := seen_all (Sb.take t) (cleanL xs)
    unfold seenL at this
    rw [this, cleanL_seen])
  have Hov : Hid (∀ t, overS (a : Int) 2 10 (putQ xs (stQ (Sb.take t))) a = xs ∨ overS (a : Int) 2 10 (putQ xs (stQ (Sb.take t))) a = dn) := Lib.hid (fun t => by
    have := quiet_over HQ.out M t
    rw [HkA.out, hSb, hdn] at this
    exact this)
  obtain ⟨F, hF⟩ : ∃ F, fullQ k W xs = F := ⟨_, rfl⟩
  have Hfin : Hid (doAll Sb (cleanL xs) = cleanL F) := Lib.hid (by
    rw [← hSb, begin_all M A W xs (by rw [Hxl.out]; have := HA8.out; omega) (by rw [Hxl.out]; have := HA8.out; omega), ← hF]
    unfold fullQ
    rw [HkA.out])
  have HFl : Hid (F.length = N) := Lib.hid (by rw [← hF, full_len, Hxl.out])
  have HFA : Hid (F.getD A 0 = 0) := Lib.hid (by rw [← hF, ← HkA.out]; exact full_head HQ.out)
  have HFo : Hid (∀ i, i < A ∨ A + 208 ≤ i → F.getD i 0 = dn.getD i 0) := Lib.hid (fun i hi => by rw [← hF, ← hdn]; exact full_out HQ.out i (by rw [HkA.out]; exact hi))
  have HFv : Hid (overS (a : Int) 2 10 F a = dn) := Lib.hid (by rw [← hF, ← hdn]; exact full_over HQ.out)
  have hsm : ∀ (Q : List (Nat × Nat)), (∀ q ∈ Q, q.2 < 18446744073709551616) → ∀ x ∈ putQ xs Q, x < 18446744073709551616 := by
    intro Q hQ
    have key : ∀ (Q : List (Nat × Nat)) (ys : List Nat), (∀ q ∈ Q, q.2 < 18446744073709551616) → (∀ x ∈ ys, x < 18446744073709551616) → ∀ x ∈ putQ ys Q, x < 18446744073709551616 := by
      intro Q
      induction Q with
      | nil => intro ys _ h; exact h
      | cons q Q ih =>
        intro ys h1 h2
        refine ih _ (fun r hr => h1 r (List.mem_cons_of_mem _ hr)) (fun x hx => ?_)
        rcases List.mem_or_eq_of_mem_set hx with e | e
        · exact h2 x e
        · rw [e]; exact h1 q (List.mem_cons_self ..)
    exact key Q xs hQ Hxs.out
  have hst : ∀ q ∈ stQ Sb, q.2 < 18446744073709551616 := by
    rw [← hSb, stQ_begin]
    intro r hr
    simp only [List.mem_append, List.mem_cons, List.not_mem_nil, or_false] at hr
    rcases hr with hr | rfl | hr | rfl
    · unfold sealQ at hr
      obtain ⟨i, hi, rfl⟩ := List.mem_map.1 hr
      have hi := List.mem_range.1 hi
      show (recR W).getD i 0 < _
      rw [List.getD_eq_getElem?_getD, List.getElem?_eq_getElem hi]
      exact recR_small (fun p hp => ⟨by have := hwq p hp; omega, HGW.out.val p hp⟩) (by rw [HWl.out]; omega) _ (by simp)
    · exact markV_lt _
    · unfold wrQ at hr
      obtain ⟨p, hp, rfl⟩ := List.mem_map.1 hr
      exact HGW.out.val p hp
    · show 0 < _; decide
  have Hss : Hid (∀ t, ∀ x ∈ putQ xs (stQ (Sb.take t)), x < 18446744073709551616) := Lib.hid (fun t => by
    obtain ⟨m, hm⟩ := stQ_take Sb t
    rw [hm]
    exact hsm _ (fun q hq => hst q (List.mem_of_mem_take hq)))
  have HFs : Hid (∀ x ∈ F, x < 18446744073709551616) := Lib.hid (by
    have := Hss.out Sb.length
    rw [← Hseen.out, List.take_length, Hfin.out, cleanL_seen] at this
    exact this)
  have Hds : Hid (∀ x ∈ dn, x < 18446744073709551616) := Lib.hid (by
    rw [← hdn]
    exact hsm _ (fun q hq => by
      unfold wrQ at hq
      obtain ⟨p, hp, rfl⟩ := List.mem_map.1 hq
      exact HGW.out.val p hp))
  have Hdl := Lib.hid hdl
  have Htot := Lib.hid htot
  unfold ptr at HBg
  clear hO6 hdn hSb hwq HQ HGW HWl Hzero hsm hst hF HDs hdl htot Hmay HT HkA Hka
  go_wp2_with fail
  refine HBg.out.mono ?_
  rintro e u7 ⟨rfl, Bs, Pn, hO7⟩
  have hO7 : Hid (Grommet.Own w u7 [boxP G 25 #[.int .i64 (a : Int), .int .i64 2, .int .i64 10], rowP 39 1 (.slice (some ⟨q, 0, none⟩) N N) N (xs.map wv), devP d (doAll (Sb.take 0) (cleanL xs)), runP R d (a : Int) 2 10 A Bs Pn (Sb.drop 0), rowP 41 2 (.slice ad n cap) n (icells W), rowP 39 1 (.slice (some ⟨q5, 0, none⟩) N cp5) N (dn.map wv)]) := Lib.hid hO7
  clear HBg
  go_wp2_with fail
  go_loopw [17, 18, 19, 20] (fun iv _ _ _ wr => ∃ (t : Nat) (Bs1 : List Nat) (Pn1 : List (Cl × Value)), t ≤ tot ∧ iv = .int .i64 (t : Int) ∧ Hid (Grommet.Own w wr [boxP G 25 #[.int .i64 (a : Int), .int .i64 2, .int .i64 10], rowP 39 1 (.slice (some ⟨q, 0, none⟩) N N) N (xs.map wv), devP d (doAll (Sb.take t) (cleanL xs)), runP R d (a : Int) 2 10 A Bs1 Pn1 (Sb.drop t), rowP 41 2 (.slice ad n cap) n (icells W), rowP 39 1 (.slice (some ⟨q5, 0, none⟩) N cp5) N (dn.map wv)])) (fun iv _ _ _ _ => tot - (intOf iv).toNat)
  case atStart => exact ⟨0, Bs, Pn, Nat.zero_le _, rfl, hO7⟩
  case round =>
    clear hO7
    obtain ⟨t, Bs1, Pn1, htl, rfl, hO⟩ := hrel
    have t0 : (0 : Int) ≤ (t : Int) := by omega
    have t1 : (t : Int) < 1000 := by omega
    have HLf := Lib.hid (LeftH 3 R d (a : Int) 2 10 A Bs1 Pn1 (Sb.drop t) w wr _ hO.out rfl)
    obtain ⟨r, hr⟩ : ∃ r, tot - t = r := ⟨_, rfl⟩
    rw [show (Sb.drop t).length = r from by rw [List.length_drop, Htot.out, hr]] at HLf
    unfold ptr at HLf
    by_cases hlt : 0 < r
    · as_aux_lemma =>
      have hlt' : (0 : Int) < (r : Int) := by omega
      have wt : IntKind.i64.wrap ((t : Int) + 1) = (t : Int) + 1 := IntWalk.i64_in _ ⟨by omega, by omega⟩
      have htS : t < Sb.length := by rw [Htot.out]; omega
      obtain ⟨s, hs⟩ : ∃ s, Sb[t]? = some s := ⟨_, List.getElem?_eq_getElem htS⟩
      have hdrop : Sb.drop t = s :: Sb.drop (t + 1) := by
        rw [List.drop_eq_getElem_cons htS]
        obtain ⟨_, e⟩ := List.getElem?_eq_some_iff.1 hs
        rw [e]
      have hstep : doAll (Sb.take (t + 1)) (cleanL xs) = s.2.does (doAll (Sb.take t) (cleanL xs)) := by rw [take_snocN hs, doAll_append]; rfl
      obtain ⟨p, cl⟩ := s
      have HStp0 : ∀ wx, Grommet.Own w wx [boxP G 25 #[.int .i64 (a : Int), .int .i64 2, .int .i64 10], rowP 39 1 (.slice (some ⟨q, 0, none⟩) N N) N (xs.map wv), devP d (doAll (Sb.take t) (cleanL xs)), runP R d (a : Int) 2 10 A Bs1 Pn1 (Sb.drop t), rowP 41 2 (.slice ad n cap) n (icells W), rowP 39 1 (.slice (some ⟨q5, 0, none⟩) N cp5) N (dn.map wv)] → Calls Try.prog 14 #[ptr R] wx fun e w' => e = .returned (.tuple #[.int .u8 (p : Int), .int .i64 0]) ∧ ∃ Pn', Grommet.Own w w' [boxP G 25 #[.int .i64 (a : Int), .int .i64 2, .int .i64 10], rowP 39 1 (.slice (some ⟨q, 0, none⟩) N N) N (xs.map wv), devP d (doAll (Sb.take (t + 1)) (cleanL xs)), runP R d (a : Int) 2 10 A Bs1 Pn' (Sb.drop (t + 1)), rowP 41 2 (.slice ad n cap) n (icells W), rowP 39 1 (.slice (some ⟨q5, 0, none⟩) N cp5) N (dn.map wv)] := by
        intro wx hOx
        rw [hdrop] at hOx
        have := StepH 3 2 R d (a : Int) 2 10 A Bs1 Pn1 p cl (Sb.drop (t + 1)) (doAll (Sb.take t) (cleanL xs)) M w wx _ hOx rfl rfl (by decide) (Hdev.out t) (by
          have h1 := Hok.out _ (List.mem_of_getElem? hs)
          have h2 := Hdev.out t
          have h3 := HA8.out.2.2.2.2.1
          rw [h2, ← h3]; exact h1)
        rw [hstep]
        exact this.mono (fun e w' h => h)
      have HStp := Lib.hid HStp0
      obtain ⟨zs, hzs⟩ : ∃ zs, putQ xs (stQ (Sb.take t)) = zs := ⟨_, rfl⟩
      have hzl : zs.length = N := by rw [← hzs, putQ_len, Hxl.out]
      have hzsm : ∀ x ∈ zs, x < 18446744073709551616 := by rw [← hzs]; exact Hss.out t
      have hov := Hov.out t
      rw [hzs] at hov
      obtain ⟨ov, hovE⟩ : ∃ ov, overS (a : Int) 2 10 zs a = ov := ⟨_, rfl⟩
      rw [hovE] at hov
      have HSn0 : ∀ wx, Grommet.Own w wx [boxP G 25 #[.int .i64 (a : Int), .int .i64 2, .int .i64 10], rowP 39 1 (.slice (some ⟨q, 0, none⟩) N N) N (xs.map wv), devP d (doAll (Sb.take t) (cleanL xs)), runP R d (a : Int) 2 10 A Bs1 Pn1 (Sb.drop t), rowP 41 2 (.slice ad n cap) n (icells W), rowP 39 1 (.slice (some ⟨q5, 0, none⟩) N cp5) N (dn.map wv)] → Calls Try.prog 18 #[ptr d] wx fun e w' => ∃ b cap2, e = .returned (.slice (some ⟨b, 0, none⟩) N cap2) ∧ Grommet.Own w w' ([boxP G 25 #[.int .i64 (a : Int), .int .i64 2, .int .i64 10], rowP 39 1 (.slice (some ⟨q, 0, none⟩) N N) N (xs.map wv), devP d (doAll (Sb.take t) (cleanL xs)), runP R d (a : Int) 2 10 A Bs1 Pn1 (Sb.drop t), rowP 41 2 (.slice ad n cap) n (icells W), rowP 39 1 (.slice (some ⟨q5, 0, none⟩) N cp5) N (dn.map wv)] ++ [rowP 39 1 (.slice (some ⟨b, 0, none⟩) N cap2) N (zs.map wv)]) := by
        intro wx hOx
        refine (SeenH 2 d (doAll (Sb.take t) (cleanL xs)) w wx _ hOx rfl M (Hdev.out t)).mono ?_
        rintro e w' ⟨ad2, cap2, rfl, hO2⟩
        rw [Hdev.out t, ← HA8.out.2.2.2.2.1, Hseen.out t, hzs] at hO2
        obtain ⟨b, rfl, _⟩ := Own.cell hO2 6 rfl 0 (wv (zs.getD 0 0)) (by rw [List.getElem?_map, List.getElem?_eq_getElem (by omega), List.getD_eq_getElem?_getD, List.getElem?_eq_getElem (by omega)]; rfl)
        rw [Hdev.out t, ← HA8.out.2.2.2.2.1]
        exact ⟨b, cap2, rfl, hO2⟩
      have HSn := Lib.hid HSn0
      have HOv0 : ∀ wx b cap2, Grommet.Own w wx ([boxP G 25 #[.int .i64 (a : Int), .int .i64 2, .int .i64 10], rowP 39 1 (.slice (some ⟨q, 0, none⟩) N N) N (xs.map wv), devP d (doAll (Sb.take t) (cleanL xs)), runP R d (a : Int) 2 10 A Bs1 Pn1 (Sb.drop t), rowP 41 2 (.slice ad n cap) n (icells W), rowP 39 1 (.slice (some ⟨q5, 0, none⟩) N cp5) N (dn.map wv)] ++ [rowP 39 1 (.slice (some ⟨b, 0, none⟩) N cap2) N (zs.map wv)]) → Calls Try.prog 17 #[.agg #[.int .i64 (a : Int), .int .i64 2, .int .i64 10], .slice (some ⟨b, 0, none⟩) N cap2] wx fun e w' => ∃ ad3 cap3, e = .returned (.slice ad3 N cap3) ∧ Grommet.Own w w' ([boxP G 25 #[.int .i64 (a : Int), .int .i64 2, .int .i64 10], rowP 39 1 (.slice (some ⟨q, 0, none⟩) N N) N (xs.map wv), devP d (doAll (Sb.take t) (cleanL xs)), runP R d (a : Int) 2 10 A Bs1 Pn1 (Sb.drop t), rowP 41 2 (.slice ad n cap) n (icells W), rowP 39 1 (.slice (some ⟨q5, 0, none⟩) N cp5) N (dn.map wv)] ++ [rowP 39 1 (.slice (some ⟨b, 0, none⟩) N cap2) N (zs.map wv), rowP 39 1 (.slice ad3 N cap3) N (ov.map wv)]) := by
        intro wx b cap2 hOx
        obtain ⟨hw, _, hc⟩ := Own.words hOx 6 rfl hzsm (by have := HA8.out; omega)
        have h1 := Over_yes wx.heap.size a 2 10 b 0 N cap2 zs wx hw hc Hmay2.out (by have := HA8.out; omega) (by have := HA8.out; omega) (Nat.le_refl _)
        refine Calls.mono h1 ?_
        rintro e w' ⟨ad3, cap3, rfl, hrow, hg⟩
        have hol : (overS (a : Int) 2 10 zs a).length = N := by rw [overS_length, hzl]
        rw [show overS (a : Int) ((2 : Nat) : Int) ((10 : Nat) : Int) zs a = overS (a : Int) 2 10 zs a from rfl, hol, hovE] at hrow
        rw [show overS (a : Int) ((2 : Nat) : Int) ((10 : Nat) : Int) zs a = overS (a : Int) 2 10 zs a from rfl, hol]
        exact ⟨ad3, cap3, rfl, hOx.addRow hrow hg⟩
      have HOv := Lib.hid HOv0
      have hovs : ov = xs ∨ ov = dn := hov
      have Hxs2 := Hxs
      clear hs htS hdrop hstep HStp0 HSn0 HOv0 hov hzs hovE hzl hzsm Hok Hdev Hseen Hov Hss
      go_wp2_with fail
      refine HLf.out.mono ?_
      rintro e w2 ⟨rfl, hw2⟩
      obtain rfl := hw2.symm
      clear HLf
      have hOr := Lib.hid (hO.out.quiet (grown_drew (World.grownBy.refl wr none)))
      have hz1 : Hid (GeoQ G (a : Int) 2 10 wr.drew) := Lib.hid (hOr.out.box 0 rfl)
      unfold ptr at HSn HStp
      clear hO
      go_wp2_with fail
      refine wp_region_held_drew (S := fun w' => GeoQ G (a : Int) 2 10 w') (by kernel_rfl) (hz1.out) (fun hS => ?_)
      refine wpAnyH_take (i := 0) (oi := { dst := some 83, op := Op.load 25 (Operand.tmp 7), type := 25, pos := "more.go:85", after := #[], guard := none }) (v := ?vqa4r17o0) rfl (by kernel_rfl) (by kernel_rfl) (by kernel_rfl) (fun _ _ _ h => h) (Or.inl ⟨by rfl, ?hqa4r17o0⟩) hS ?_
      case hqa4r17o0 => (intro wx hx; obtain ⟨f0, f1, f2⟩ := GeoQ.cells hx; go_simp; (try with_reducible rfl))
      try simp only [Act.put, List.setIfInBounds_toArray, List.set_cons_zero, List.set_cons_succ]
      refine wpAnyH_take (i := 1) (oi := { dst := some 84, op := Op.move (Operand.tmp 9), type := 26, pos := "more.go:85", after := #[], guard := none }) (v := ?vqa4r17o1) rfl (by kernel_rfl) (by kernel_rfl) (by kernel_rfl) (fun _ _ _ h => h) (Or.inl ⟨by rfl, ?hqa4r17o1⟩) hS ?_
      case hqa4r17o1 => (intro wx hx; skip; go_simp; (try with_reducible rfl))
      try simp only [Act.put, List.setIfInBounds_toArray, List.set_cons_zero, List.set_cons_succ]
      refine wpAnyH_ready (rs := [2]) (by kernel_rfl) (by simp) ?_
      refine AllReadyH.cons (o := { dst := some 85, op := Op.call { callee := Callee.value (Operand.func 18), args := #[Operand.tmp 84], argTypes := #[26] }, type := 30, pos := "more.go:85", after := #[{ on := 1, ground := Ground.data }], guard := none }) rfl (fun K hK => ?_) AllReadyH.nil
      go_simp
      refine (HSn.out _ hOr.out).mono ?_
      rintro e v1 ⟨b, cap2, rfl, hOn⟩
      clear hOr HSn
      have hOr := Lib.hid hOn
      clear hOn
      refine hK.out _ _ ?hsqa4r17o2 (fun hS => ?_)
      case hsqa4r17o2 => (exact hOr.out.box 0 rfl)
      clear hK K
      try simp only [Act.put, List.setIfInBounds_toArray, List.set_cons_zero, List.set_cons_succ]
      refine wpAnyH_ready (rs := [3]) (by kernel_rfl) (by simp) ?_
      refine AllReadyH.cons (o := { dst := some 86, op := Op.call { callee := Callee.value (Operand.func 17), args := #[Operand.tmp 83, Operand.tmp 85], argTypes := #[25, 30] }, type := 30, pos := "more.go:85", after := #[{ on := 0, ground := Ground.data }, { on := 2, ground := Ground.data }, { on := 2, ground := Ground.chain }], guard := none }) rfl (fun K hK => ?_) AllReadyH.nil
      go_simp
      refine (HOv.out _ _ _ hOr.out).mono ?_
      rintro e v2 ⟨ad3, cap3, rfl, hOn⟩
      clear hOr HOv
      have hOr := Lib.hid hOn
      clear hOn
      refine hK.out _ _ ?hsqa4r17o3 (fun hS => ?_)
      case hsqa4r17o3 => (exact hOr.out.box 0 rfl)
      clear hK K
      try simp only [Act.put, List.setIfInBounds_toArray, List.set_cons_zero, List.set_cons_succ]
      refine wpAnyH_take (i := 4) (oi := { dst := some 18, op := Op.assign (Operand.tmp 86), type := 30, pos := "more.go:85", after := #[{ on := 3, ground := Ground.data }, { on := 3, ground := Ground.chain }, { on := 0, ground := Ground.phase }, { on := 1, ground := Ground.phase }, { on := 2, ground := Ground.phase }, { on := 3, ground := Ground.phase }], guard := none }) (v := ?vqa4r17o4) rfl (by kernel_rfl) (by kernel_rfl) (by kernel_rfl) (fun _ _ _ h => h) (Or.inl ⟨by rfl, ?hqa4r17o4⟩) hS ?_
      case hqa4r17o4 => (intro wx hx; skip; go_simp; (try with_reducible rfl))
      try simp only [Act.put, List.setIfInBounds_toArray, List.set_cons_zero, List.set_cons_succ]
      refine wpAnyH_done (by kernel_rfl) ?_ _
      clear hz1 hS
      have hN2 : N ≤ 549755813888 := by have := HA8.out; omega
      obtain ⟨hw7, _, _⟩ := Own.words hOr.out 7 rfl (show ∀ x ∈ ov, x < 18446744073709551616 by
        rcases hovs with h | h
        · rw [h]; exact Hxs.out
        · rw [h]; exact Hds.out) hN2
      obtain ⟨hw1, _, _⟩ := Own.words hOr.out 1 rfl Hxs.out hN2
      obtain ⟨hw5, _, _⟩ := Own.words hOr.out 5 rfl Hds.out hN2
      have HS1 := Lib.hid (Same_any ad3 (some ⟨q, 0, none⟩) N N cap3 N ov xs _ hw7 hw1)
      have HS2 := Lib.hid (fun wx (hg : World.grownBy _ wx none) => Same_any ad3 (some ⟨q5, 0, none⟩) N N cap3 cp5 ov dn wx (hw7.keep hg (by simp)) (hw5.keep hg (by simp)))
      have hr1 : t + 1 ≤ tot := by omega
      clear hw7 hw1 hw5 hr
      by_cases hb : ov = xs
      · as_aux_lemma =>
        rw [decide_eq_true hb] at HS1
        clear HS2 hb hovs
        go_wp2_with fail
        refine HS1.out.mono ?_
        rintro e v3 ⟨rfl, hg3⟩
        have HStp2 := Lib.hid (HStp.out v3 (hOr.out.less.quiet hg3))
        clear HStp hOr hg3 HS1
        go_wp2_with fail
        refine HStp2.out.mono ?_
        rintro e v5 ⟨rfl, Pn2, hO5⟩
        have hO5 := Lib.hid hO5
        clear HStp2
        go_wp2
        go_roundw
        case rel => exact ⟨t + 1, Bs1, Pn2, by omega, by go_num, hO5⟩
        case measure => simp [intOf]; omega
      · as_aux_lemma =>
        have hod : ov = dn := hovs.resolve_left hb
        rw [decide_eq_false hb] at HS1
        rw [decide_eq_true hod] at HS2
        clear hb hovs hod
        go_wp2_with fail
        refine HS1.out.mono ?_
        rintro e v3 ⟨rfl, hg3⟩
        have HS3 := Lib.hid (HS2.out v3 hg3)
        have hO3 := Lib.hid (hOr.out.quiet hg3)
        clear HS1 HS2 hOr hg3
        have HS1 := HS3
        have hOr := hO3
        clear HS3 hO3
        go_wp2_with fail
        refine HS1.out.mono ?_
        rintro e v4 ⟨rfl, hg3⟩
        have HStp2 := Lib.hid (HStp.out v4 (hOr.out.less.quiet hg3))
        clear HStp hOr hg3 HS1
        go_wp2_with fail
        refine HStp2.out.mono ?_
        rintro e v5 ⟨rfl, Pn2, hO5⟩
        have hO5 := Lib.hid hO5
        clear HStp2
        go_wp2
        go_roundw
        case rel => exact ⟨t + 1, Bs1, Pn2, by omega, by go_num, hO5⟩
        case measure => simp [intOf]; omega
    · as_aux_lemma =>
      have hr0 : r = 0 := by omega
      subst hr0
      have htt : t = tot := by omega
      have hlt' : ¬ (0 : Int) < ((0 : Nat) : Int) := by omega
      have hO' := hO.out
      rw [show Sb.drop t = [] from List.drop_eq_nil_of_le (by rw [Htot.out]; omega), show Sb.take t = Sb from List.take_of_length_le (by rw [Htot.out]; omega), Hfin.out] at hO'
      have hO8 : Hid (Grommet.Own w wr [boxP G 25 #[.int .i64 (a : Int), .int .i64 2, .int .i64 10], rowP 39 1 (.slice (some ⟨q, 0, none⟩) N N) N (xs.map wv), devP d (cleanL F), runP R d (a : Int) 2 10 A Bs1 Pn1 [], rowP 41 2 (.slice ad n cap) n (icells W), rowP 39 1 (.slice (some ⟨q5, 0, none⟩) N cp5) N (dn.map wv)]) := Lib.hid hO'
      have hcl8 : (cleanL F).length = 8 * M := by rw [cleanL_len, HFl.out]; exact HA8.out.2.2.2.2.1
      have HSu0 : Calls Try.prog 20 #[ptr d] wr fun e w' => ∃ b cap2, e = .returned (.slice (some ⟨b, 0, none⟩) N cap2) ∧ Grommet.Own w w' ([boxP G 25 #[.int .i64 (a : Int), .int .i64 2, .int .i64 10], rowP 39 1 (.slice (some ⟨q, 0, none⟩) N N) N (xs.map wv), devP d (cleanL F), runP R d (a : Int) 2 10 A Bs1 Pn1 [], rowP 41 2 (.slice ad n cap) n (icells W), rowP 39 1 (.slice (some ⟨q5, 0, none⟩) N cp5) N (dn.map wv)] ++ [rowP 39 1 (.slice (some ⟨b, 0, none⟩) N cap2) N (F.map wv)]) := by
        refine (SureH 2 d (cleanL F) w wr _ hO8.out rfl M hcl8).mono ?_
        rintro e w' ⟨ad2, cap2, rfl, hO2⟩
        rw [cleanL_sure, cleanL_len, HFl.out] at hO2
        have hN0 : 0 < N := by have := HA8.out; omega
        have hFl := HFl.out
        obtain ⟨b, rfl, _⟩ := Own.cell hO2 6 rfl 0 (wv (F.getD 0 0)) (by rw [List.getElem?_map, List.getElem?_eq_getElem (by omega), List.getD_eq_getElem?_getD, List.getElem?_eq_getElem (by omega)]; rfl)
        rw [cleanL_len, HFl.out]
        exact ⟨b, cap2, rfl, hO2⟩
      have HSu := Lib.hid HSu0
      rw [show (((0 : Nat) : Nat) : Int) = 0 from rfl] at hlt' HLf
      unfold ptr at HSu
      clear hO hO' HSu0 htt hr Hok Hdev Hseen Hov Hss Hfin Htot
      go_wp2_with fail
      refine HLf.out.mono ?_
      rintro e w2 ⟨rfl, hw2⟩
      obtain rfl := hw2.symm
      clear HLf
      go_wp2_with fail
      refine HSu.out.mono ?_
      rintro e w3 ⟨q7, cp7, rfl, hO3⟩
      have hO3 : Hid (Grommet.Own w w3 [boxP G 25 #[.int .i64 (a : Int), .int .i64 2, .int .i64 10], rowP 39 1 (.slice (some ⟨q, 0, none⟩) N N) N (xs.map wv), devP d (cleanL F), runP R d (a : Int) 2 10 A Bs1 Pn1 [], rowP 41 2 (.slice ad n cap) n (icells W), rowP 39 1 (.slice (some ⟨q5, 0, none⟩) N cp5) N (dn.map wv), rowP 39 1 (.slice (some ⟨q7, 0, none⟩) N cp7) N (F.map wv)]) := Lib.hid hO3
      clear HSu hO8
      obtain ⟨c0, c1, c2⟩ := geo2 hO3.out (k := 0) rfl
      go_wp2_with fail
      refine (HAt.out _).mono ?_
      rintro e w4 ⟨rfl, hg4⟩
      have hO4 := Lib.hid (hO3.out.quiet hg4)
      have HLf := Lib.hid (LeftH 3 R d (a : Int) 2 10 A Bs1 Pn1 [] w w4 _ hO4.out rfl)
      rw [show ((([] : List (Nat × Cl)).length : Nat) : Int) = 0 from rfl] at HLf
      have HLo := Lib.hid (LooseH 2 d (cleanL F) w w4 _ hO4.out rfl M hcl8)
      rw [cleanL_loose, show ((0 : Nat) : Int) = 0 from rfl] at HLo
      unfold ptr at HLf HLo
      clear hO3 hg4 HAt c0 c1 c2 hcl8
      go_wp2_with fail
      refine HLf.out.mono ?_
      rintro e w5 ⟨rfl, hw5⟩
      obtain rfl := hw5.symm
      clear HLf hO4
      have A0 : ¬ (A : Int) < 0 := by omega
      have A0' : (0 : Int) ≤ (A : Int) := by omega
      have AN : ¬ (N : Int) ≤ (A : Int) := by have := HA8.out; omega
      have AN' : (A : Int) < (N : Int) := by omega
      have kN : ((N : Int) != (N : Int)) = false := by simp
      go_wp2_with fail
      refine HLo.out.mono ?_
      rintro e w6 ⟨rfl, hO6⟩
      have hO6 := Lib.hid hO6
      clear HLo
      have hcell : ∀ (wx : World) (i v : Nat), i < N → F.getD i 0 = v → Grommet.Own w wx [boxP G 25 #[.int .i64 (a : Int), .int .i64 2, .int .i64 10], rowP 39 1 (.slice (some ⟨q, 0, none⟩) N N) N (xs.map wv), devP d (cleanL F), runP R d (a : Int) 2 10 A Bs1 Pn1 [], rowP 41 2 (.slice ad n cap) n (icells W), rowP 39 1 (.slice (some ⟨q5, 0, none⟩) N cp5) N (dn.map wv), rowP 39 1 (.slice (some ⟨q7, 0, none⟩) N cp7) N (F.map wv)] → wx.cell? ⟨q7, i, none⟩ = some (.int .u64 (v : Int)) := by
        intro wx i v hi hv hOx
        have hFl := HFl.out
        obtain ⟨b, he, c1, _⟩ := Own.cell hOx 6 rfl i (wv v) (by rw [List.getElem?_map, List.getElem?_eq_getElem (by omega), ← hv, List.getD_eq_getElem?_getD, List.getElem?_eq_getElem (by omega)]; rfl)
        cases he
        exact c1
      have hcelld : ∀ (wx : World) (i v : Nat), i < N → dn.getD i 0 = v → Grommet.Own w wx [boxP G 25 #[.int .i64 (a : Int), .int .i64 2, .int .i64 10], rowP 39 1 (.slice (some ⟨q, 0, none⟩) N N) N (xs.map wv), devP d (cleanL F), runP R d (a : Int) 2 10 A Bs1 Pn1 [], rowP 41 2 (.slice ad n cap) n (icells W), rowP 39 1 (.slice (some ⟨q5, 0, none⟩) N cp5) N (dn.map wv), rowP 39 1 (.slice (some ⟨q7, 0, none⟩) N cp7) N (F.map wv)] → wx.cell? ⟨q5, i, none⟩ = some (.int .u64 (v : Int)) := by
        intro wx i v hi hv hOx
        have hFl := Hdl.out
        obtain ⟨b, he, c1, _⟩ := Own.cell hOx 5 rfl i (wv v) (by rw [List.getElem?_map, List.getElem?_eq_getElem (by omega), ← hv, List.getD_eq_getElem?_getD, List.getElem?_eq_getElem (by omega)]; rfl)
        cases he
        exact c1
      have cA := hcell w6 A 0 (by omega) HFA.out hO6.out
      have Hcell := Lib.hid hcell
      have Hcelld := Lib.hid hcelld
      obtain ⟨A2, hA2⟩ : ∃ x, A + 208 = x := ⟨_, rfl⟩
      have HA2 := Lib.hid hA2
      have wA2 : IntKind.i64.wrap ((A : Int) + 208) = (A2 : Int) := by have := HA8.out; rw [IntWalk.i64_in _ ⟨by omega, by omega⟩]; omega
      have wA2' : (A : Int) + 208 = (A2 : Int) := by omega
      have wA2w : IntKind.i64.wrap (A2 : Int) = (A2 : Int) := by have := HA8.out; exact IntWalk.i64_in _ ⟨by omega, by omega⟩
      have hN20 : N ≤ 2000 := by have := HA8.out; omega
      clear hcell hcelld hA2
      go_wp2_with fail
      go_loopw [23] (fun iv wr => ∃ j : Nat, j ≤ N ∧ iv = .int .i64 (j : Int) ∧ Hid (Grommet.Own w wr [boxP G 25 #[.int .i64 (a : Int), .int .i64 2, .int .i64 10], rowP 39 1 (.slice (some ⟨q, 0, none⟩) N N) N (xs.map wv), devP d (cleanL F), runP R d (a : Int) 2 10 A Bs1 Pn1 [], rowP 41 2 (.slice ad n cap) n (icells W), rowP 39 1 (.slice (some ⟨q5, 0, none⟩) N cp5) N (dn.map wv), rowP 39 1 (.slice (some ⟨q7, 0, none⟩) N cp7) N (F.map wv)])) (fun iv _ => N - (intOf iv).toNat)
      case atStart => exact ⟨0, Nat.zero_le _, rfl, hO6⟩
      case round =>
        clear hO6 cA
        obtain ⟨j, hj, rfl, hO⟩ := hrel
        have j0 : (0 : Int) ≤ (j : Int) := by omega
        by_cases hltj : j < N
        · as_aux_lemma =>
          have hltj' : (j : Int) < (N : Int) := by omega
          have wj : IntKind.i64.wrap ((j : Int) + 1) = (j : Int) + 1 := IntWalk.i64_in _ ⟨by omega, by omega⟩
          have hOE := Lib.hid (fun nq => hO.out.quiet (grown_drewN wr nq none))
          by_cases ha1 : j < A
          · as_aux_lemma =>
            have q1 : (j : Int) < (A : Int) := by omega
            obtain ⟨U, hU⟩ : ∃ U, F.getD j 0 = U := ⟨_, rfl⟩
            have c1 := Hcell.out wr j U hltj hU hO.out
            have c2 := Hcelld.out wr j U hltj (by rw [← HFo.out j (.inl ha1)]; exact hU) hO.out
            have q3 : ((U : Int) != (U : Int)) = false := by simp
            clear hO hU ha1 HFo
            go_wp2_with fail
            go_quiet (fail)
            go_wp2
            go_roundw
            case rel => exact ⟨j + 1, by omega, by go_num, Lib.hid (hOE.out _)⟩
            case measure => simp [intOf]; omega
          · by_cases ha2 : A2 ≤ j
            · as_aux_lemma =>
              have q1 : decide ((j : Int) < (A : Int)) = false := by simp; omega
              have q1n : decide (j < A) = false := by simp; omega
              have q2 : decide ((A2 : Int) ≤ (j : Int)) = true := by simp; omega
              have q2n : decide (A2 ≤ j) = true := by simp; omega
              obtain ⟨U, hU⟩ : ∃ U, F.getD j 0 = U := ⟨_, rfl⟩
              have c1 := Hcell.out wr j U hltj hU hO.out
              have c2 := Hcelld.out wr j U hltj (by rw [← HFo.out j (.inr (by rw [HA2.out]; exact ha2))]; exact hU) hO.out
              have q3 : ((U : Int) != (U : Int)) = false := by simp
              clear hO hU ha1 ha2 HFo
              go_wp2_with fail
              go_quiet (fail)
              go_wp2
              go_roundw
              case rel => exact ⟨j + 1, by omega, by go_num, Lib.hid (hOE.out _)⟩
              case measure => simp [intOf]; omega
            · as_aux_lemma =>
              have q1 : decide ((j : Int) < (A : Int)) = false := by simp; omega
              have q1n : decide (j < A) = false := by simp; omega
              have q2 : decide ((A2 : Int) ≤ (j : Int)) = false := by simp; omega
              have q2n : decide (A2 ≤ j) = false := by simp; omega
              clear hO ha1 ha2 HFo
              go_wp2_with fail
              go_quiet (fail)
              go_wp2
              go_roundw
              case rel => exact ⟨j + 1, by omega, by go_num, Lib.hid (hOE.out _)⟩
              case measure => simp [intOf]; omega
        · as_aux_lemma =>
          have hltj' : ¬ (j : Int) < (N : Int) := by omega
          have hN2 : N ≤ 549755813888 := by omega
          obtain ⟨hw6, _, hc6⟩ := Own.words hO.out 6 rfl HFs.out hN2
          have HOv0 := Over_yes wr.heap.size a 2 10 q7 0 N cp7 F wr hw6 hc6 Hmay2.out (by have := HA8.out; omega) (by omega) (Nat.le_refl _)
          have HOv1 : Calls Try.prog 17 #[.agg #[.int .i64 (a : Int), .int .i64 2, .int .i64 10], .slice (some ⟨q7, 0, none⟩) N cp7] wr fun e w' => ∃ ad3 cap3, e = .returned (.slice ad3 N cap3) ∧ Grommet.Own w w' ([boxP G 25 #[.int .i64 (a : Int), .int .i64 2, .int .i64 10], rowP 39 1 (.slice (some ⟨q, 0, none⟩) N N) N (xs.map wv), devP d (cleanL F), runP R d (a : Int) 2 10 A Bs1 Pn1 [], rowP 41 2 (.slice ad n cap) n (icells W), rowP 39 1 (.slice (some ⟨q5, 0, none⟩) N cp5) N (dn.map wv), rowP 39 1 (.slice (some ⟨q7, 0, none⟩) N cp7) N (F.map wv)] ++ [rowP 39 1 (.slice ad3 N cap3) N (dn.map wv)]) := by
            refine Calls.mono HOv0 ?_
            rintro e w' ⟨ad3, cap3, rfl, hrow, hg⟩
            have hol : (overS (a : Int) ((2 : Nat) : Int) ((10 : Nat) : Int) F a) = dn := HFv.out
            rw [hol, Hdl.out] at hrow
            rw [hol, Hdl.out]
            exact ⟨ad3, cap3, rfl, hO.out.addRow hrow hg⟩
          have HOv := Lib.hid HOv1
          obtain ⟨c0, c1, c2⟩ := geo2 hO.out (k := 0) rfl
          clear hO HOv0 HOv1 hw6 hc6 Hcell Hcelld HFo HFA HFv HFs
          go_wp2_with fail
          refine HOv.out.mono ?_
          rintro e w7 ⟨ad3, cap3, rfl, hO7⟩
          obtain ⟨hw7, _, _⟩ := Own.words hO7 7 rfl Hds.out hN2
          obtain ⟨hw5, _, _⟩ := Own.words hO7 5 rfl Hds.out hN2
          have HS := Lib.hid (Same_any ad3 (some ⟨q5, 0, none⟩) N N cap3 cp5 dn dn w7 hw7 hw5)
          rw [decide_eq_true rfl] at HS
          have HWk := Lib.hid (fun wx => works_ev wx)
          have hgO := Lib.hid hO7.grown
          clear hw7 hw5 hO7 HOv c0 c1 c2
          go_wp2_with fail
          refine HS.out.mono ?_
          rintro e w8 ⟨rfl, hg8⟩
          have hgO2 := Lib.hid (grown_trans hgO.out hg8)
          clear HS hgO hg8
          go_wp2_with fail
          refine (HWk.out _).mono ?_
          rintro e w9 ⟨rfl, hg9⟩
          have hgE := Lib.hid (grown_trans hgO2.out hg9)
          clear HWk hg9 hgO2
          go_wp2
          go_ret
          exact ⟨rfl, hgE.out⟩
theorem walk (a0 a1 : Int) (td : Option Addr) (tl tc : Nat) (T : List Cpt) (w : World) (w0 : (Lit.int .u8 a0).wf = true) (w1 : (Lit.int .u8 a1).wf = true) (hT : CptsIn w td tl T) :
    Calls Try.prog 4 #[.int .u8 a0, .int .u8 a1, .slice td tl tc] w (Go.Ev.WorksIs w) := by
  have b0 := bounds_u8 w0
  have b1 := bounds_u8 w1
  obtain ⟨A, rfl⟩ := Int.eq_ofNat_of_zero_le b0.1
  obtain ⟨B, rfl⟩ := Int.eq_ofNat_of_zero_le b1.1
  by_cases h : 40 < tl
  · exact walk_far _ _ td tl tc w h
  · exact walk_at A B td tl tc T w (by omega) (by omega) (by omega) hT
end Go.Proofs.Ytpdofdloclmbdaa.commitQuiet