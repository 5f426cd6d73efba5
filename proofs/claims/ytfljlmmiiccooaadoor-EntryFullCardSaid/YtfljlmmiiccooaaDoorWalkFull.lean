import Derived.Test.YtfljlmmiiccooaaDoorPk34
import Derived.Test.YtfljlmmiiccooaaDoorWorks
import Derived.Deep.DeepCutAuto
set_option maxRecDepth 100000
set_option maxHeartbeats 8000000
namespace Go.Proofs.YtfljlmmiiccooaaDoor.entryFull
open Go.RowKit Go.Grommet
set_option linter.unusedVariables false
theorem add_str (a b c : ByteArray) (h : a ++ b = c) (hs : a.size + b.size ≤ 1000000) (w : World) : (Op.stringOp .add a b).run Tryd.prog w = .ok (.string c) w := by
 rw [run_string_add_sum w a b (by omega), h]
theorem append_str (a b : List UInt8) : str a ++ str b = str (a ++ b) := by
 have h : (str a ++ str b).data = (str (a ++ b)).data := by
  rw [ByteArray.data_append]
  simp [str]
 exact ByteArray.ext h
def nmF (t : List UInt8) (j : Nat) : List UInt8 := 97 :: UInt8.ofNat (97 + j) :: t
theorem nmF_inj {t : List UInt8} {i j : Nat} (hi : i < 20) (hj : j < 20) (h : nmF t i = nmF t j) : i = j := by
 unfold nmF at h
 have h2 := (List.cons.inj (List.cons.inj h).2).1
 have h3 := congrArg UInt8.toNat h2
 rw [UInt8.toNat_ofNat', UInt8.toNat_ofNat'] at h3
 omega
theorem nmF_ok {t : List UInt8} {j : Nat} (h : okName (str (97 :: 97 :: t)) = true) (hj : j < 20) : okName (str (nmF t j)) = true := by
 have e : (UInt8.ofNat (97 + j)).toNat = 97 + j := by rw [UInt8.toNat_ofNat']; omega
 refine ok_of h (by decide) (fun x hx => ?_) (by simp)
 rcases List.mem_cons.1 hx with rfl | hx
 ·right
  constructor <;> (intro e2; rw [e2] at e; simp at e; omega)
 ·exact .inl hx
structure Fl (t : List UInt8) (i : Nat) (E : Nat → List UInt8 × Nat) : Prop where
 names : ∀ k, k < 12 → (E k).1 ≠ [] → ∃ j, j < i ∧ (E k).1 = nmF t j
 has : ∀ j, j < i → ∃ k, k < 12 ∧ (E k).1 = nmF t j
 uniq : ∀ k k', k < 12 → k' < 12 → (E k).1 = (E k').1 → (E k).1 ≠ [] → k = k'
 cnt : eN E = i
theorem Fl.none (t : List UInt8) : Fl t 0 (fun _ => ([], 0)) := ⟨fun _ _ h => absurd rfl h, fun _ h => absurd h (by omega), fun _ _ _ _ _ h => absurd rfl h, by decide⟩
theorem Fl.not {t : List UInt8} {i j : Nat} {E : Nat → List UInt8 × Nat} (h : Fl t i E) (hi : i ≤ 12) (hj : i ≤ j) (hj2 : j < 20) : ∀ k, k < 12 → (E k).1 ≠ nmF t j := fun k hk e => by
 obtain ⟨q, hq, he⟩ := h.names k hk (by rw [e]; exact List.cons_ne_nil _ _)
 have := nmF_inj (by omega) hj2 (he.symm.trans e)
 omega
theorem Fl.put {t : List UInt8} {i k m : Nat} {E : Nat → List UInt8 × Nat} (h : Fl t i E) (hi : i < 12) (hk : k < 12) (h0 : isNone (E k) = true) : Fl t (i + 1) (fun q => if q = k then (nmF t i, m) else E q) := by
 have hE : (E k).1 = [] := by unfold isNone at h0; simp at h0; exact h0.1
 refine ⟨fun q hq hne => ?_, fun j hj => ?_, fun q q' hq hq' he hne => ?_, ?_⟩
 ·by_cases e : q = k
  ·exact ⟨i, by omega, by simp [e]⟩
  ·simp only [if_neg e] at hne ⊢
   obtain ⟨j, h1, h2⟩ := h.names q hq hne
   exact ⟨j, by omega, h2⟩
 ·by_cases e : j = i
  ·exact ⟨k, hk, by simp [e]⟩
  ·obtain ⟨q, h1, h2⟩ := h.has j (by omega)
   have hqk : q ≠ k := fun e2 => by rw [e2, hE] at h2; exact absurd h2.symm (List.cons_ne_nil _ _)
   exact ⟨q, h1, by simp only [if_neg hqk]; exact h2⟩
 ·by_cases e : q = k
  ·by_cases e' : q' = k
   ·omega
   ·simp only [if_pos e, if_neg e'] at he
    exact absurd he.symm (h.not (by omega) (Nat.le_refl _) (by omega) q' hq')
  ·by_cases e' : q' = k
   ·simp only [if_neg e, if_pos e'] at he
    exact absurd he (h.not (by omega) (Nat.le_refl _) (by omega) q hq)
   ·simp only [if_neg e, if_neg e'] at he hne
    exact h.uniq q q' hq hq' he hne
 ·have h1 := eN_put (E := E) hk (nmF t i, m)
  rw [h0, h.cnt, show isNone (nmF t i, m) = false from by unfold isNone nmF; rfl] at h1
  simpa using h1
theorem own_03 {w0 w : World} {A0 A1 A2 A3 : Pr} (h : Grommet.Own w0 w [A0, A1, A2, A3]) : Grommet.Own w0 w [A0, A3] :=
 h.permute (fun j => [0, 3].getD j 0) (fun j hj => by
  have : j = 0 ∨ j = 1 := by simp at hj; omega
  rcases this with rfl | rfl
  ·exact ⟨by simp, rfl⟩
  ·exact ⟨by simp, rfl⟩) (fun i j hi hj hne => by
  have h1 : i = 0 ∨ i = 1 := by simp at hi; omega
  have h2 : j = 0 ∨ j = 1 := by simp at hj; omega
  rcases h1 with rfl | rfl <;> rcases h2 with rfl | rfl <;> first | exact absurd rfl hne | decide)
theorem sol3 {G I B N cp g : Nat} {ad : Option Addr} {xs : List Nat} {L : List (Nat × Nat)} : ∀ Q ∈ [boxP G 31 #[.int .i64 1, .int .i64 (I : Int), .int .i64 (B : Int)], rowP 25 1 (.slice ad N cp) N (xs.map wv), viewP g xs L], Solid Q := by
 intro Q h
 simp only [List.mem_cons, List.not_mem_nil, or_false] at h
 rcases h with rfl | rfl | rfl
 ·exact solid_box _ _ _
 ·exact solid_row _ _ _ _ _
 ·exact solid_view _ _ _
theorem room {I B : Nat} {f0 : Nat → Nat} {xs : List Nat} {L : List (Nat × Nat)} {P : Nat → Nat → Nat} {E : Nat → List UInt8 × Nat} (D : DS I B f0 xs L P E) (hB : B = 61) (k : Nat) : cntB xs L B + needK P 1 k ≤ B := by
 have h1 := D.cnt
 have h2 : nzc (P 1) ≤ 13 := cntF_le _ 13
 have h3 : needK P 1 k ≤ 2 := by unfold needK; split <;> (try split) <;> omega
 omega
theorem add_new {I B m kv g : Nat} {f0 : Nat → Nat} {xs : List Nat} {L : List (Nat × Nat)} {P : Nat → Nat → Nat} {E : Nat → List UInt8 × Nat} {s : ByteArray} {w0 w' : World} {Ps : List Pr} {e : Ending} (D : DS I B f0 xs L P E) (hB : B = 61) (hok : okName s = true) (hno : ∀ k, k < 12 → (E k).1 ≠ bytesOf s) (h : EAddE I B 1 (fun n => n = 1) f0 xs L P E s m kv g w0 Ps e w') :
  (e = .returned (.int .i64 16) ∧ eN E = 12 ∧ Grommet.Own w0 w' Ps) ∨ ∃ k L' P', k < 12 ∧ isNone (E k) = true ∧ e = .returned (.int .i64 0) ∧ DS I B f0 xs L' P' (fun j => if j = k then (bytesOf s, m) else E j) ∧ L'.length ≤ L.length + 30 ∧ Grommet.Own w0 w' (Ps.set kv (viewP g xs L')) := by
 rcases h with ⟨h1, _⟩ | ⟨_, ⟨k, hk, h2⟩, _⟩ | ⟨_, _, ⟨h1, h2, h3⟩ | ⟨k, h1, h2, h3, h4, h5⟩ | ⟨k, L', P', h1, h2, h3, h4, h5, h6, h7, h8, h9⟩⟩
 ·rw [hok] at h1; cases h1
 ·exact absurd h2 (hno k hk)
 ·exact .inl ⟨h1, eN_full (fun k hk => by
   cases hh : isNone (E k) with
   | false => rfl
   | true => exact absurd ((D.e.isNone_iff hk).1 hh) (h2 k hk)), h3⟩
 ·have := room D hB k; omega
 ·exact .inr ⟨k, L', P', h1, (D.e.isNone_iff h1).2 h2, h3, ⟨h4, by have := D.cnt; omega⟩, h7, h9⟩
theorem walk_at (tail : ByteArray) (out : Nat) (w : World) (ho : out ≤ 255)
  (ht : Lib.TabIs Tryd.prog w "math/bits.deBruijn64tab" .u8 tab) :
  Calls Tryd.prog 4 #[.string tail, .int .u8 (out : Int)] w (Go.Ev.WorksIs w) := by
 have HTab := Lib.hid ht
 clear ht
 go_enter Tryd.func4, Tryd.ntmps4
 go_upto_region 1 with fail
 go_cut [0] (fun sv wx => ∃ S : ByteArray, sv = .string S ∧ S.size ≤ 30 ∧ w = wx)
 case first =>
  by_cases hs1 : 30 < tail.size
  ·have s1 : (30 : Int) < (tail.size : Int) := by omega
   go_wp2_with fail
   go_meet
   case rel => exact ⟨_, rfl, by rw [ByteArray.size_extract]; omega, rfl⟩
  ·have s1 : ¬ (30 : Int) < (tail.size : Int) := by omega
   go_wp2_with fail
   go_meet
   case rel => exact ⟨_, rfl, by rw [ByteArray.size_extract]; omega, rfl⟩
 case rest =>
 obtain ⟨S, rfl, hS30, rfl⟩ := hcut
 obtain ⟨t, hT⟩ : ∃ t, bytesOf S = t := ⟨_, rfl⟩
 have htl : t.length ≤ 30 := by rw [← hT, length_bytesOf]; exact hS30
 have hSt : S = str t := by rw [← hT, str_bytesOf]
 obtain ⟨AA, hAA⟩ : ∃ AA, str (97 :: 97 :: t) = AA := ⟨_, rfl⟩
 have hcA : (⟨#[97, 97]⟩ : ByteArray) ++ S = AA := by rw [← hAA, hSt]; exact append_str [97, 97] t
 have haddA := Lib.hid (fun wx => add_str ⟨#[97, 97]⟩ S AA hcA (by have : (⟨#[97, 97]⟩ : ByteArray).size = 2 := rfl; omega) wx)
 have hbigA : ¬ 9223372036854775807 < (⟨#[97, 97]⟩ : ByteArray).size + S.size := by have : (⟨#[97, 97]⟩ : ByteArray).size = 2 := rfl; omega
 have HM := Lib.hid (fun wx => EMay_any AA wx)
 have HST := Lib.hid (And.intro hSt (And.intro hS30 htl))
 have hadd1 := haddA.out w
 clear hT hSt
 cases hok : okName AA with
 | false =>
  rw [hok] at HM
  have HW := Lib.hid (entryNames.works_tab w HTab.out)
  clear hok
  go_wp2_with fail
  refine (HM.out _).mono ?_
  rintro e w1 ⟨rfl, rfl⟩
  go_wp2_with fail
  refine HW.out.mono ?_
  rintro e w5 ⟨rfl, hg⟩
  go_wp2
  go_ret
  exact ⟨rfl, hg⟩
 | true =>
 rw [hok] at HM
 rw [← hAA] at hok
 have Hok := Lib.hid hok
 obtain ⟨I, hI⟩ : ∃ I, 2 + 0 % 20 = I := ⟨_, rfl⟩
 obtain ⟨B, hB⟩ : ∃ B, 2 + 59 % 60 = B := ⟨_, rfl⟩
 have HSm := Lib.hid (fun wx => Small_any 0 59 wx (by omega) (by omega))
 rw [hI, hB, show ((0 : Nat) : Int) = 0 from rfl, show ((59 : Nat) : Int) = 59 from rfl, show ((1 : Nat) : Int) = 1 from rfl] at HSm
 unfold gv at HSm
 have hI2 : I = 2 := by omega
 have hB61 : B = 61 := by omega
 obtain ⟨N, hN⟩ : ∃ N, 488 + 16 * I + 8 * B = N := ⟨_, rfl⟩
 obtain ⟨xs0, hxs⟩ : ∃ xs, fmtL 1 I B (264 + 208 * 1) N = xs := ⟨_, rfl⟩
 have hS0 := DS.begun (I := I) (B := B) (N := N) (by omega) (by omega) (by omega) (by omega) hN
 rw [hxs] at hS0
 have HS0 := Lib.hid hS0
 have hmay := hS0.e.st.may
 have HF := Lib.hid (fun wx Ps hx => RFormatH 1 I B N xs0 w wx Ps hx hmay (by omega) hxs)
 have HWd := Lib.hid (fun wx => Words_any ((1 : Nat) : Int) (I : Int) (B : Int) wx)
 rw [show wordsV ((1 : Nat) : Int) (I : Int) (B : Int) = (N : Int) from by rw [words_pos hmay]; omega, show ((1 : Nat) : Int) = 1 from rfl] at HWd
 rw [show ((1 : Nat) : Int) = 1 from rfl] at HF
 unfold gv at HWd HF
 have HIB := Lib.hid (And.intro hI2 (And.intro hB61 hN))
 have hNl : N ≤ 1024 := by omega
 clear hS0 hxs hI hB hI2 hB61 hN hmay hok haddA hAA
 go_wp2_with fail
 refine (HM.out _).mono ?_
 rintro e w1 ⟨rfl, hw1⟩
 obtain rfl := hw1.symm
 clear HM hadd1 hbigA
 go_wp2_with fail
 refine (HSm.out _).mono ?_
 rintro e u1 ⟨rfl, hg1⟩
 have hO1 := ((Own.nil w).quiet hg1).addBox 31 #[.int .i64 1, .int .i64 (I : Int), .int .i64 (B : Int)]
 obtain ⟨G, hG⟩ : ∃ G, u1.heap.size = G := ⟨_, rfl⟩
 obtain ⟨u2, hu2⟩ : ∃ u2, u1.alloc (.cells #[.int .i64 1, .int .i64 (I : Int), .int .i64 (B : Int)] 31) = u2 := ⟨_, rfl⟩
 rw [hG, hu2] at hO1
 have hO1 : Grommet.Own w u2 [boxP G 31 #[.int .i64 1, .int .i64 (I : Int), .int .i64 (B : Int)]] := hO1
 obtain ⟨y0, y1, y2⟩ := geo_cells hO1 (k := 0) rfl
 have HFx := Lib.hid (HF.out u2 _ hO1)
 clear HSm hg1 hO1 HF
 go_wp2_with fail
 all_goals (try rw [hu2]); (try rw [hG])
 go_wp2_with fail
 refine HFx.out.mono ?_
 rintro e u3 ⟨q, rfl, hO2⟩
 have hO2 : Hid (Grommet.Own w u3 [boxP G 31 #[.int .i64 1, .int .i64 (I : Int), .int .i64 (B : Int)], rowP 25 1 (.slice (some ⟨q, 0, none⟩) N N) N (xs0.map wv)]) := Lib.hid hO2
 clear HFx y0 y1 y2 hu2 hG
 go_wp2_with fail
 go_loopw [6, 7] (fun sl kv wr => ∃ (i : Nat) (ad : Option Addr) (cp : Nat) (xs : List Nat) (P : Nat → Nat → Nat) (f0 : Nat → Nat) (E : Nat → List UInt8 × Nat), i ≤ 14 ∧ kv = .int .i64 (i : Int) ∧ sl = .slice ad N cp ∧ Hid (DS I B f0 xs [] P E ∧ Fl t (min i 12) E) ∧ Hid (Grommet.Own w wr [boxP G 31 #[.int .i64 1, .int .i64 (I : Int), .int .i64 (B : Int)], rowP 25 1 (.slice ad N cp) N (xs.map wv)])) (fun _ kv _ => 14 - (intOf kv).toNat)
 case atStart => exact ⟨0, _, _, xs0, _, _, _, by omega, rfl, rfl, Lib.hid ⟨HS0.out, Fl.none t⟩, hO2⟩
 case round =>
  clear hO2 HS0
  obtain ⟨i, ad, cp, xs, P, f0, E, hi, rfl, rfl, HS, hO⟩ := hrel
  have i0 : (0 : Int) ≤ (i : Int) := by omega
  have hxl : Hid (xs.length = N) := Lib.hid (by have := HS.out.1.e.st.len; have := HIB.out; omega)
  obtain ⟨hW, hnil, _⟩ := Own.words hO.out 1 rfl HS.out.1.e.st.small (by omega)
  have HNew := Lib.hid (NewH ad N cp xs w _ _ hO.out hW (by omega) hnil)
  clear hO hW hnil
  by_cases hlt : i < 14
  ·as_aux_lemma =>
   have hlt' : (i : Int) < 14 := by omega
   have wi : IntKind.i64.wrap ((i : Int) + 1) = (i : Int) + 1 := IntWalk.i64_in _ ⟨by omega, by omega⟩
   have wi8 : IntKind.u8.wrap (i : Int) = (i : Int) := IntWalk.u8_in _ ⟨by omega, by omega⟩
   obtain ⟨c, hc⟩ : ∃ c, 97 + i = c := ⟨_, rfl⟩
   have wc : IntKind.u8.wrap (97 + (i : Int)) = (c : Int) := by rw [IntWalk.u8_in _ ⟨by omega, by omega⟩]; omega
   have ec : (97 : Int) + (i : Int) = (c : Int) := by omega
   have wc' : IntKind.u8.wrap (c : Int) = (c : Int) := IntWalk.u8_in _ ⟨by omega, by omega⟩
   obtain ⟨S2, hS2⟩ : ∃ S2, str [97, UInt8.ofNat c] = S2 := ⟨_, rfl⟩
   obtain ⟨nm, hnm⟩ : ∃ nm, str (nmF t i) = nm := ⟨_, rfl⟩
   have hcat : S2 ++ S = nm := by rw [← hS2, ← hnm, HST.out.1, append_str, ← hc]; rfl
   have hz2 : S2.size = 2 := by rw [← hS2]; rfl
   have hadd2 := Lib.hid (fun wx => add_str S2 S nm hcat (by have := HST.out.2.1; omega) wx)
   have hbig : ¬ 9223372036854775807 < S2.size + S.size := by have := HST.out.2.1; omega
   have hnok : okName nm = true := by rw [← hnm]; exact nmF_ok Hok.out (by omega)
   have hnb : bytesOf nm = nmF t i := by rw [← hnm, bytesOf_str]
   have Hnm := Lib.hid (And.intro hnok hnb)
   have HcB : Hid ((UInt8.ofNat c).toNat = c) := Lib.hid (by rw [UInt8.toNat_ofNat']; omega)
   have HS2 := Lib.hid hS2
   clear hS2 hnm hnok hnb hz2
   go_wp2_with fail
   refine HNew.out.mono ?_
   rintro e w1 ⟨g, rfl, hO1⟩
   have hO1 : Grommet.Own w w1 [boxP G 31 #[.int .i64 1, .int .i64 (I : Int), .int .i64 (B : Int)], rowP 25 1 (.slice ad N cp) N (xs.map wv), viewP g xs []] := hO1
   obtain ⟨Z, hZ⟩ : ∃ Z, w1.heap.size = Z := ⟨_, rfl⟩
   have hO2 := hO1.quiet (World.grownBy_alloc w1 (.cells #[.int .u8 97, .int .u8 (c : Int)] 5) none)
   have hbz := heap_alloc_new w1 (.cells #[.int .u8 97, .int .u8 (c : Int)] 5)
   obtain ⟨w2, hw2⟩ : ∃ w2, w1.alloc (.cells #[.int .u8 97, .int .u8 (c : Int)] 5) = w2 := ⟨_, rfl⟩
   rw [hw2] at hO2 hbz
   rw [hZ] at hbz
   have hat : At w2 (some ⟨Z, 0, none⟩) (([97, UInt8.ofNat c] : List UInt8).map bv) := at_of_row (by rw [hbz]; show _ = some (Obj.cells #[bv 97, bv (UInt8.ofNat c)] 5 (0, 0)); unfold bv; rw [HcB.out]; rfl)
   have hcv := conv_at (P := Tryd.prog) (w := w2) 39 9 5 Tryd.underlying39 Tryd.underlying5 Tryd.underlying9 (l := 2) (cap := 2) hat rfl (fun e => by cases e)
   rw [HS2.out] at hcv
   obtain ⟨y0, y1, y2⟩ := geo_cells hO2 (k := 0) rfl
   obtain ⟨y0', y1', y2'⟩ := geo_cells hO1 (k := 0) rfl
   have HAd := Lib.hid (AddE HS.out.1.e (by simp) nm (by have := okName_size Hnm.out.1; omega) 1 (by omega) (by have := HIB.out; omega) 2 g w w2 HTab.out _ hO2 sol3 rfl)
   rw [show ((1 : Nat) : Int) = 1 from rfl] at HAd
   unfold gv at HAd
   clear hO1 hO2 hbz hat
   have hadd3 := hadd2.out
   have HFl0 := Lib.hid HS.out.2
   go_wp2_with fail
   all_goals (try rw [hw2]); (try rw [hZ])
   go_wp2_with fail
   refine HAd.out.mono ?_
   rintro e w3 hAE
   clear HAd hcv y0 y1 y2 y0' y1' y2' hw2 hZ HNew hadd2 hadd3 hbig hcat
   rcases add_new HS.out.1 HIB.out.2.1 Hnm.out.1 (by
    rw [Hnm.out.2]
    by_cases h12 : i < 12
    ·have := HS.out.2
     rw [show min i 12 = i from by omega] at this
     exact this.not (by omega) (Nat.le_refl _) (by omega)
    ·have := HS.out.2
     rw [show min i 12 = 12 from by omega] at this
     exact this.not (by omega) (by omega) (by omega)) hAE with ⟨rfl, hfull, hO3⟩ | ⟨k, L', P', hk, h0, rfl, hD, hL, hO3⟩
   ·as_aux_lemma =>
    have hi12 : 12 ≤ i := by have := HS.out.2.cnt; omega
    have x1 : ¬ (i : Int) < 12 := by omega
    have hO3 : Hid (Grommet.Own w w3 [boxP G 31 #[.int .i64 1, .int .i64 (I : Int), .int .i64 (B : Int)], rowP 25 1 (.slice ad N cp) N (xs.map wv), viewP g xs []]) := Lib.hid hO3
    clear hfull hAE
    have HFl := Lib.hid (FlatH 2 g xs ([] : List (Nat × Nat)) w w3 _ hO3.out rfl)
    rw [hxl.out] at HFl
    have HSy := Lib.hid (And.intro HS.out.1.flat (show Fl t (min (i + 1) 12) E by rw [show min (i + 1) 12 = min i 12 from by omega]; exact HS.out.2))
    generalize flatV xs ([] : List (Nat × Nat)) = ys at HFl HSy
    have z4' : ((N : Int) != (N : Int)) = false := by simp
    clear hO3
    go_wp2_with fail
    refine HFl.out.mono ?_
    rintro e w4 ⟨ad2, cp2, rfl, hO4⟩
    have hO4 : Grommet.Own w w4 [boxP G 31 #[.int .i64 1, .int .i64 (I : Int), .int .i64 (B : Int)], rowP 25 1 (.slice ad N cp) N (xs.map wv), viewP g xs ([] : List (Nat × Nat)), rowP 25 1 (.slice ad2 N cp2) N (ys.map wv)] := hO4
    clear HFl
    obtain ⟨y0, y1, y2⟩ := geo_cells hO4 (k := 0) rfl
    have hO4 := Lib.hid hO4
    go_wp2_with fail
    refine (HWd.out _).mono ?_
    rintro e w5 ⟨rfl, hg5⟩
    have hOE : Hid (Grommet.Own w w5 [boxP G 31 #[.int .i64 1, .int .i64 (I : Int), .int .i64 (B : Int)], rowP 25 1 (.slice ad2 N cp2) N (ys.map wv)]) := Lib.hid (own_03 (hO4.out.quiet hg5))
    clear hO4 hg5 y0 y1 y2
    go_wp2
    go_roundw
    case rel => exact ⟨i + 1, ad2, cp2, ys, _, f0, _, by omega, by go_num, rfl, HSy, hOE⟩
    case measure => simp [intOf]; omega
   ·as_aux_lemma =>
    have hi12 : i < 12 := by have := HS.out.2.cnt; have := eN_room hk h0; omega
    have x1 : (i : Int) < 12 := by omega
    have hO3 : Hid (Grommet.Own w w3 [boxP G 31 #[.int .i64 1, .int .i64 (I : Int), .int .i64 (B : Int)], rowP 25 1 (.slice ad N cp) N (xs.map wv), viewP g xs L']) := Lib.hid hO3
    have HD : Hid (DS I B f0 xs L' P' (fun q => if q = k then (bytesOf nm, 1) else E q) ∧ Fl t (min (i + 1) 12) (fun q => if q = k then (bytesOf nm, 1) else E q)) := Lib.hid ⟨hD, by
     have h := HS.out.2
     rw [show min i 12 = i from by omega] at h
     rw [show min (i + 1) 12 = i + 1 from by omega, Hnm.out.2]
     exact h.put hi12 hk h0⟩
    clear hD hL hAE h0
    have HFl := Lib.hid (FlatH 2 g xs L' w w3 _ hO3.out rfl)
    rw [hxl.out] at HFl
    have HSy := Lib.hid (And.intro HD.out.1.flat HD.out.2)
    generalize flatV xs L' = ys at HFl HSy
    have z4' : ((N : Int) != (N : Int)) = false := by simp
    clear hO3
    go_wp2_with fail
    refine HFl.out.mono ?_
    rintro e w4 ⟨ad2, cp2, rfl, hO4⟩
    have hO4 : Grommet.Own w w4 [boxP G 31 #[.int .i64 1, .int .i64 (I : Int), .int .i64 (B : Int)], rowP 25 1 (.slice ad N cp) N (xs.map wv), viewP g xs L', rowP 25 1 (.slice ad2 N cp2) N (ys.map wv)] := hO4
    clear HFl
    obtain ⟨y0, y1, y2⟩ := geo_cells hO4 (k := 0) rfl
    have hO4 := Lib.hid hO4
    go_wp2_with fail
    refine (HWd.out _).mono ?_
    rintro e w5 ⟨rfl, hg5⟩
    have hOE : Hid (Grommet.Own w w5 [boxP G 31 #[.int .i64 1, .int .i64 (I : Int), .int .i64 (B : Int)], rowP 25 1 (.slice ad2 N cp2) N (ys.map wv)]) := Lib.hid (own_03 (hO4.out.quiet hg5))
    clear hO4 hg5 y0 y1 y2
    go_wp2
    go_roundw
    case rel => exact ⟨i + 1, ad2, cp2, ys, _, f0, _, by omega, by go_num, rfl, HSy, hOE⟩
    case measure => simp [intOf]; omega
  ·as_aux_lemma =>
   obtain rfl : i = 14 := by omega
   obtain ⟨r, hr⟩ : ∃ r, out % 12 = r := ⟨_, rfl⟩
   have hr12 : r < 12 := by omega
   have e4 : (out : Int) % 12 = (r : Int) := by omega
   have e4' : Int.tmod (out : Int) 12 = (r : Int) := by rw [Int.tmod_eq_emod_of_nonneg (by omega)]; exact e4
   have wr4 : IntKind.u8.wrap (r : Int) = (r : Int) := IntWalk.u8_in _ ⟨by omega, by omega⟩
   obtain ⟨c, hc⟩ : ∃ c, 97 + r = c := ⟨_, rfl⟩
   have wc : IntKind.u8.wrap (97 + (r : Int)) = (c : Int) := by rw [IntWalk.u8_in _ ⟨by omega, by omega⟩]; omega
   have ec : (97 : Int) + (r : Int) = (c : Int) := by omega
   have wc' : IntKind.u8.wrap (c : Int) = (c : Int) := IntWalk.u8_in _ ⟨by omega, by omega⟩
   obtain ⟨S2, hS2⟩ : ∃ S2, str [97, UInt8.ofNat c] = S2 := ⟨_, rfl⟩
   obtain ⟨nm, hnm⟩ : ∃ nm, str (nmF t r) = nm := ⟨_, rfl⟩
   have hcat : S2 ++ S = nm := by rw [← hS2, ← hnm, HST.out.1, append_str, ← hc]; rfl
   have hz2 : S2.size = 2 := by rw [← hS2]; rfl
   have hadd2 := Lib.hid (fun wx => add_str S2 S nm hcat (by have := HST.out.2.1; omega) wx)
   have hbig : ¬ 9223372036854775807 < S2.size + S.size := by have := HST.out.2.1; omega
   have hnok : okName nm = true := by rw [← hnm]; exact nmF_ok Hok.out (by omega)
   have hnb : bytesOf nm = nmF t r := by rw [← hnm, bytesOf_str]
   obtain ⟨nb, hbn⟩ : ∃ nb, str (98 :: t) = nb := ⟨_, rfl⟩
   have hcatb : (⟨#[98]⟩ : ByteArray) ++ S = nb := by rw [← hbn, HST.out.1]; exact append_str [98] t
   have hz1 : (⟨#[98]⟩ : ByteArray).size = 1 := rfl
   have haddb := Lib.hid (fun wx => add_str ⟨#[98]⟩ S nb hcatb (by have := HST.out.2.1; omega) wx)
   have hbigb : ¬ 9223372036854775807 < (⟨#[98]⟩ : ByteArray).size + S.size := by have := HST.out.2.1; omega
   have hbok : okName nb = true := by rw [← hbn]; exact ok_of Hok.out (by decide) (fun x hx => .inl hx) (by omega)
   have hbb : bytesOf nb = 98 :: t := by rw [← hbn, bytesOf_str]
   have Hnm := Lib.hid (And.intro (And.intro hnok hnb) (And.intro hbok hbb))
   have HcB : Hid ((UInt8.ofNat c).toNat = c) := Lib.hid (by rw [UInt8.toNat_ofNat']; omega)
   have hD := HS.out.1
   have hFl : Fl t 12 E := HS.out.2
   have HD0 := Lib.hid (And.intro hD hFl)
   have HS2 := Lib.hid hS2
   clear hS2 hnm hnok hnb hz2 hr hcatb hz1 hbok hbb hbn HS
   go_wp2_with fail
   refine HNew.out.mono ?_
   rintro e w1 ⟨g, rfl, hO1⟩
   have hO1 : Grommet.Own w w1 [boxP G 31 #[.int .i64 1, .int .i64 (I : Int), .int .i64 (B : Int)], rowP 25 1 (.slice ad N cp) N (xs.map wv), viewP g xs []] := hO1
   obtain ⟨Z, hZ⟩ : ∃ Z, w1.heap.size = Z := ⟨_, rfl⟩
   have hO2 := hO1.quiet (World.grownBy_alloc w1 (.cells #[.int .u8 97, .int .u8 (c : Int)] 5) none)
   have hbz := heap_alloc_new w1 (.cells #[.int .u8 97, .int .u8 (c : Int)] 5)
   obtain ⟨w2, hw2⟩ : ∃ w2, w1.alloc (.cells #[.int .u8 97, .int .u8 (c : Int)] 5) = w2 := ⟨_, rfl⟩
   rw [hw2] at hO2 hbz
   rw [hZ] at hbz
   have hat : At w2 (some ⟨Z, 0, none⟩) (([97, UInt8.ofNat c] : List UInt8).map bv) := at_of_row (by rw [hbz]; show _ = some (Obj.cells #[bv 97, bv (UInt8.ofNat c)] 5 (0, 0)); unfold bv; rw [HcB.out]; rfl)
   have hcv := conv_at (P := Tryd.prog) (w := w2) 39 9 5 Tryd.underlying39 Tryd.underlying5 Tryd.underlying9 (l := 2) (cap := 2) hat rfl (fun e => by cases e)
   rw [HS2.out] at hcv
   obtain ⟨y0, y1, y2⟩ := geo_cells hO2 (k := 0) rfl
   obtain ⟨y0', y1', y2'⟩ := geo_cells hO1 (k := 0) rfl
   have HRm := Lib.hid (RemoveE HD0.out.1.e (by simp) nm (by have := okName_size Hnm.out.1.1; omega) 2 g w w2 _ hO2 sol3 rfl)
   rw [show ((1 : Nat) : Int) = 1 from rfl] at HRm
   unfold gv at HRm
   have hadd3 := hadd2.out
   clear hO1 hO2 hbz hat hD hFl HNew
   go_wp2_with fail
   all_goals (try rw [hw2]); (try rw [hZ])
   go_wp2_with fail
   refine HRm.out.mono ?_
   rintro e w3 hRE
   obtain ⟨k, L1, P1, hk, hek, rfl, hDR, hO3⟩ : ∃ k L1 P1, k < 12 ∧ (E k).1 = nmF t r ∧ e = .returned (.int .i64 0) ∧ DropR I B (fun n => n = 1) f0 xs [] L1 P P1 1 k ∧ Grommet.Own w w3 [boxP G 31 #[.int .i64 1, .int .i64 (I : Int), .int .i64 (B : Int)], rowP 25 1 (.slice ad N cp) N (xs.map wv), viewP g xs L1] := by
    rcases hRE with ⟨h1, _⟩ | ⟨_, h2, _⟩ | ⟨_, k, L1, P1, h1, h2, h3, h4, h5⟩
    ·rw [Hnm.out.1.1] at h1; cases h1
    ·obtain ⟨k, hk, he⟩ := HD0.out.2.has r hr12
     exact absurd (he.trans Hnm.out.1.2.symm) (h2 k hk)
    ·exact ⟨k, L1, P1, h1, h2.trans Hnm.out.1.2, h3, h4, h5⟩
   have hD1 := HD0.out.1.dropped hk hDR
   obtain ⟨E1, hE1⟩ : ∃ E1, (fun j => if j = k then (([] : List UInt8), 0) else E j) = E1 := ⟨_, rfl⟩
   have hno1 : ∀ q, q < 12 → (E1 q).1 ≠ nmF t r := fun q hq he => by
    rw [← hE1] at he
    by_cases e : q = k
    ·simp only [if_pos e] at he; exact absurd he.symm (List.cons_ne_nil _ _)
    ·simp only [if_neg e] at he
     exact e (HD0.out.2.uniq q k hq hk (he.trans hek.symm) (by rw [he]; exact List.cons_ne_nil _ _))
   have hno2 : ∀ q, q < 12 → (E1 q).1 ≠ 98 :: t := fun q hq he => by
    rw [← hE1] at he
    by_cases e : q = k
    ·simp only [if_pos e] at he; exact absurd he.symm (List.cons_ne_nil _ _)
    ·simp only [if_neg e] at he
     obtain ⟨j, _, hj⟩ := HD0.out.2.names q hq (by rw [he]; exact List.cons_ne_nil _ _)
     rw [hj] at he
     exact absurd (List.cons.inj he).1 (by decide)
   have hk0 : isNone (E1 k) = true := by rw [← hE1]; simp only [if_pos]; rfl
   have hc1 : eN E1 = 11 := by
    have h1 := eN_put (E := E) hk (([] : List UInt8), 0)
    have h2 : isNone (E k) = false := by unfold isNone; rw [hek]; rfl
    rw [hE1, HD0.out.2.cnt, h2, show isNone (([] : List UInt8), 0) = true from rfl] at h1
    simpa using h1
   rw [hE1] at hD1
   have hl1 : L1.length ≤ 4 := by have := hDR.len; simpa using this
   have HD1 := Lib.hid (And.intro hD1 (And.intro (And.intro hno1 hno2) (And.intro (And.intro hk hk0) (And.intro hc1 hl1))))
   have HAd := Lib.hid (AddE hD1.e (by omega) nb (by have := okName_size Hnm.out.2.1; omega) 1 (by omega) (by have := HIB.out; omega) 2 g w w3 HTab.out _ hO3 sol3 rfl)
   rw [show ((1 : Nat) : Int) = 1 from rfl] at HAd
   unfold gv at HAd
   clear y0 y1 y2
   obtain ⟨y0, y1, y2⟩ := geo_cells hO3 (k := 0) rfl
   have haddb := haddb.out
   clear HRm hRE hk hek hDR hO3 hD1 hE1 hno1 hno2 hk0 hc1 hl1 hcv hw2 hZ hadd2 hadd3 hbig hcat y0' y1' y2' HD0
   go_wp2_with fail
   refine HAd.out.mono ?_
   rintro e w4 hAE
   rcases add_new HD1.out.1 HIB.out.2.1 Hnm.out.2.1 (by rw [Hnm.out.2.2]; exact HD1.out.2.1.2) hAE with ⟨_, hfull, _⟩ | ⟨k2, L2, P2, hk2, h02, rfl, hD2, hL2, hO4⟩
   ·have := HD1.out.2.2.2.1; omega
   have hO4 : Grommet.Own w w4 [boxP G 31 #[.int .i64 1, .int .i64 (I : Int), .int .i64 (B : Int)], rowP 25 1 (.slice ad N cp) N (xs.map wv), viewP g xs L2] := hO4
   rw [Hnm.out.2.2] at hD2
   obtain ⟨E2, hE2⟩ : ∃ E2, (fun j => if j = k2 then ((98 :: t : List UInt8), 1) else E1 j) = E2 := ⟨_, rfl⟩
   have hno3 : ∀ q, q < 12 → (E2 q).1 ≠ nmF t r := fun q hq he => by
    rw [← hE2] at he
    by_cases e : q = k2
    ·simp only [if_pos e] at he; exact absurd (List.cons.inj he).1 (by decide)
    ·simp only [if_neg e] at he; exact HD1.out.2.1.1 q hq he
   have hc2 : eN E2 = 12 := by
    have h1 := eN_put (E := E1) hk2 ((98 :: t : List UInt8), 1)
    rw [hE2, HD1.out.2.2.2.1, h02, show isNone ((98 :: t : List UInt8), 1) = false from rfl] at h1
    simpa using h1
   rw [hE2] at hD2
   have hl2 : L2.length ≤ 60 := by have := HD1.out.2.2.2.2; omega
   have HD2 := Lib.hid (And.intro hD2 (And.intro hno3 hc2))
   have HFi := Lib.hid (FindE hD2.e nm (by have := okName_size Hnm.out.1.1; omega) 2 g w w4 _ hO4 sol3 rfl)
   rw [show ((1 : Nat) : Int) = 1 from rfl] at HFi
   unfold gv at HFi
   have HAd2 := Lib.hid (fun wx (hx : Grommet.Own w wx [boxP G 31 #[.int .i64 1, .int .i64 (I : Int), .int .i64 (B : Int)], rowP 25 1 (.slice ad N cp) N (xs.map wv), viewP g xs L2]) => AddE hD2.e hl2 nm (by have := okName_size Hnm.out.1.1; omega) 1 (by omega) (by have := HIB.out; omega) 2 g w wx HTab.out _ hx sol3 rfl)
   rw [show ((1 : Nat) : Int) = 1 from rfl] at HAd2
   unfold gv at HAd2
   have HLi := Lib.hid (fun wx (hx : Grommet.Own w wx [boxP G 31 #[.int .i64 1, .int .i64 (I : Int), .int .i64 (B : Int)], rowP 25 1 (.slice ad N cp) N (xs.map wv), viewP g xs L2]) => ListE hD2.e 2 g w wx _ hx sol3 rfl)
   rw [show ((1 : Nat) : Int) = 1 from rfl, lsE_len, hc2] at HLi
   unfold gv at HLi
   clear y0 y1 y2
   obtain ⟨y0, y1, y2⟩ := geo_cells hO4 (k := 0) rfl
   clear HAd hAE hk2 h02 hD2 hL2 hO4 hE2 hno3 hc2 hl2 haddb hbigb
   go_wp2_with fail
   refine HFi.out.mono ?_
   rintro e w5 ⟨x, kk, en, rfl, hfi, hO5⟩
   rcases hfi with ⟨h1, _⟩ | ⟨_, ⟨q, hq, _, _, he⟩, _⟩ | ⟨_, _, rfl, rfl, rfl⟩
   ·rw [Hnm.out.1.1] at h1; cases h1
   ·exact absurd (he.trans Hnm.out.1.2) (HD2.out.2.1 q hq)
   rw [enV_mk]
   have hO6 := hO5.quiet (World.grownBy_alloc w5 (.cells #[.string (str []), .int .i64 ((0 : Nat) : Int)] 41) none)
   obtain ⟨Y, hY⟩ : ∃ Y, w5.heap.size = Y := ⟨_, rfl⟩
   rw [show str ([] : List UInt8) = ⟨#[]⟩ from rfl, show ((0 : Nat) : Int) = 0 from rfl] at hO6 ⊢
   obtain ⟨w6, hw6⟩ : ∃ w6, w5.alloc (.cells #[.string ⟨#[]⟩, .int .i64 0] 41) = w6 := ⟨_, rfl⟩
   rw [hw6] at hO6
   have HA6 := Lib.hid (HAd2.out w6 hO6)
   clear y0 y1 y2
   obtain ⟨y0, y1, y2⟩ := geo_cells hO6 (k := 0) rfl
   have Hw6 := Lib.hid hw6
   clear HFi hO5 hO6 HAd2 hw6
   go_upto_region 23 with fail
   all_goals (try rw [Hw6.out])
   go_wp2_with fail
   refine HA6.out.mono ?_
   rintro e w7 hAE
   rcases add_new HD2.out.1 HIB.out.2.1 Hnm.out.1.1 (by rw [Hnm.out.1.2]; exact HD2.out.2.1) hAE with ⟨rfl, _, hO7⟩ | ⟨k3, L3, P3, hk3, h03, _⟩
   ·have HL7 := Lib.hid (HLi.out w7 hO7)
    clear y0 y1 y2
    obtain ⟨y0, y1, y2⟩ := geo_cells hO7 (k := 0) rfl
    clear HA6 hAE hO7 HLi
    go_wp2_with fail
    refine HL7.out.mono ?_
    rintro e w8 ⟨lad, lcp, rfl, hO8⟩
    have hgO := Lib.hid hO8.grown
    have HWx := Lib.hid (entryNames.works_tab w8 (tab_grown HTab.out hO8.grown))
    clear HL7 hO8 y0 y1 y2
    go_wp2_with fail
    refine HWx.out.mono ?_
    rintro e w9 ⟨rfl, hg⟩
    have hgE := Lib.hid (grown_trans hgO.out hg)
    go_wp2
    go_ret
    exact ⟨rfl, hgE.out⟩
   ·have := eN_room hk3 h03
    have := HD2.out.2.2
    omega
theorem walk (s : ByteArray) (a1 : Int) (w : World) (w0 : s.size ≤ 140737488351232) (w1 : (Lit.int .u8 a1).wf = true) (ht : Lib.TabIs Tryd.prog w "math/bits.deBruijn64tab" .u8 tab) :
  Calls Tryd.prog 4 #[.string s, .int .u8 a1] w (Go.Ev.WorksIs w) := by
 have b1 := bounds_u8 w1
 obtain ⟨A, rfl⟩ := Int.eq_ofNat_of_zero_le b1.1
 exact walk_at s A w (by omega) ht
end Go.Proofs.YtfljlmmiiccooaaDoor.entryFull
