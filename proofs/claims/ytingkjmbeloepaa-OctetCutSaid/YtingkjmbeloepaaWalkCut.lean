/- OctetCut, walked. -/
import Derived.Test.YtingkjmbeloepaaItemMath
import Derived.Test.YtingkjmbeloepaaOctX
import Derived.Test.YtingkjmbeloepaaBase4
namespace Go.Proofs.Ytingkjmbeloepaa
open Go.RowKit Go.Grommet

theorem Try.info3 : (Try.prog.info? 3).map (fun i => (i.zero, i.size, i.bytes)) = some (some (.int .i64 0), 1, 8) := by kernel_rfl

/-- Where the first j items end. -/
def endOf (L : List It) (j : Nat) : Nat := (encAll (L.take j)).length
/-- The ends of the first i items, as values. -/
def endsL (L : List It) (i : Nat) : List Value := (List.range i).map fun j => Value.int .i64 (endOf L (j + 1) : Int)
theorem endsL_succ (L : List It) (i : Nat) : endsL L (i + 1) = endsL L i ++ [Value.int .i64 (endOf L (i + 1) : Int)] := by simp [endsL, List.range_succ]
theorem length_endsL (L : List It) (i : Nat) : (endsL L i).length = i := by simp [endsL]

theorem at_made {w w' : World} {ad : Option Addr} {xs : List Value} {row : Option Nat} {B : Nat} (h : At w ad xs) (hg : w.grownBy w' row) (hb : ∀ a, ad = some a → B ≤ a.block) (hr : ∀ g, row = some g → g < B) : At w' ad xs :=
  h.grown hg (fun a ha _ e => by have h1 := hb a ha; have h2 := hr _ e.symm; omega)

theorem items_at {w : World} {g o len : Nat} {L : List It} (h : ItemsIn w (some ⟨g, o, none⟩) len L) (i : Nat) (x : It) (hx : L[i]? = some x) :
    w.cell? ⟨g, o + i * 3, none⟩ = some (.bool x.is) ∧ w.cell? ⟨g, o + i * 3 + 1, none⟩ = some (.int .u64 (x.n : Int)) ∧ w.cell? ⟨g, o + i * 3 + 2, none⟩ = some (.string x.s) := by
  obtain ⟨g', o', ha, h0, h1, h2⟩ := h.2.2 i x hx
  cases ha
  exact ⟨h0, h1, h2⟩

theorem owns_new {w w' : World} {base e n : Nat} {v : Value} {xs : List Value} (h : w.ownsRow base e 1 v n xs) (hg : w.grownBy w' none) : w'.ownsRow base e 1 v n xs := by
  refine h.kept hg ?_
  rcases v.ownBlock with _ | g
  · exact Or.inl rfl
  · exact Or.inr (by simp)

namespace octetCut
set_option maxHeartbeats 400000 in
theorem walk_far (a0 : Option Addr) (len0 cap0 : Nat) (n : Int) (w : World) (h : 60 < len0) : Calls Try.prog 8 #[.slice a0 len0 cap0, .int .u16 n] w (WorksIs w) := by
  have h1 : (60 : Int) < (len0 : Int) := by omega
  go_enter Try.func8, Try.ntmps8
  go_wp2_with fail
  refine (works_any _).mono ?_
  rintro e w5 ⟨rfl, hg⟩
  go_wp2
  go_ret
  exact ⟨rfl, hg⟩

/-- What holds at each round of the first loop. -/
def Rel1 (w : World) (L : List It) (s5 s6 s7 : Value) (wr : World) : Prop :=
  ∃ i ad cap ade cape, i ≤ L.length ∧ s7 = .int .i64 (i : Int) ∧ s5 = .slice ad (endOf L i) cap ∧ (ad = none → endOf L i = 0 ∧ cap = 0) ∧ endOf L i ≤ cap ∧ At wr ad ((encAll (L.take i)).map bv) ∧
    s6 = .slice ade i cape ∧ wr.ownsRow w.heap.size 3 1 (.slice ade i cape) i (endsL L i) ∧ w.grownBy wr none ∧ endOf L i ≤ i * 1040 ∧ (∀ j x, j < i → L[j]? = some x → x.s.size ≤ 1024)

/-- What holds at each round of the second loop. -/
def Rel2 (w : World) (L : List It) (K len0 B g d : Nat) (all : List UInt8) (ade : Option Addr) (s10 s11 : Value) (wr : World) : Prop :=
  ∃ i a, i ≤ len0 ∧ s11 = .int .i64 (i : Int) ∧ s10 = .bool (decide (K < endOf L i)) ∧ (¬ K < endOf L i → a = endOf L i) ∧ TapeIs wr B g d all a (decide (K < endOf L i)) ∧ At wr ade (endsL L len0) ∧ w.grownBy wr none

theorem end_mono (L : List It) (i : Nat) (x : It) (hx : L[i]? = some x) : endOf L i ≤ endOf L (i + 1) := by
  have e := encAll_take_succ L i x hx
  unfold endOf
  rw [e, List.length_append]; omega

theorem at_tape {w w' : World} {ad : Option Addr} {xs : List Value} {g B : Nat} (h : At w ad xs) (hg : w.grownBy w' (some g)) (hb : ∀ a, ad = some a → a.block < B) (hgB : B ≤ g) : At w' ad xs :=
  h.grown hg (fun a ha _ e => by have h1 := hb a ha; cases e; omega)

theorem textR_torn (all : List UInt8) (a : Nat) (most : Int) : textR all a true most = ([], a, true) := rfl
theorem numberR_torn (all : List UInt8) (a : Nat) : numberR all a true = (0, a, true) := rfl
theorem byteR_torn (all : List UInt8) (a : Nat) : byteR all a true = (0, a, true) := rfl

theorem end_grows (L : List It) (i : Nat) (x : It) (hx : L[i]? = some x) (h : endOf L i ≤ i * 1040) (hs : x.s.size ≤ 1024) (hn : x.n < 2 ^ 64) : endOf L (i + 1) ≤ (i + 1) * 1040 := by
  have e := encAll_take_succ L i x hx
  unfold endOf at h ⊢
  rw [e, List.length_append]
  have h8 := nb_le x.n hn
  have h9 := nb_le x.s.size (by omega)
  have : (enc x).length ≤ 1040 := by
    unfold enc
    split
    · rw [List.length_append, length_num, length_bytesOf]; omega
    · rw [length_num]; omega
  omega

set_option maxRecDepth 100000 in
set_option maxHeartbeats 8000000 in
theorem walk_at (a0 : Option Addr) (len0 cap0 : Nat) (L : List It) (n : Nat) (w : World) (hn : n < 65536) (hI : ItemsIn w a0 len0 L) (h : len0 ≤ 60) : Calls Try.prog 8 #[.slice a0 len0 cap0, .int .u16 (n : Int)] w (WorksIs w) := by
  obtain ⟨i0, hi, hz0, hz1, hz2⟩ := info_parts Try.info3
  have h1 : ¬ (60 : Int) < (len0 : Int) := by omega
  have HI := Lib.hid hI
  have HL := Lib.hid hI.1
  clear hI
  go_enter Try.func8, Try.ntmps8
  go_wp2_with fail
  go_loopw [5, 6, 7] (fun s5 s6 s7 wr => Rel1 w L s5 s6 s7 wr) (fun _ _ s7 _ => len0 - (intOf s7).toNat)
  case atStart => exact ⟨0, none, 0, none, 0, Nat.zero_le _, rfl, rfl, fun _ => ⟨rfl, rfl⟩, Nat.le_refl _, At.nil _ _, rfl, World.ownsRow_nil _ _ _ _, World.grownBy.refl _ _, Nat.zero_le _, fun j x hj => by omega⟩
  case round =>
    obtain ⟨i, ad, cap, ade, cape, hil, rfl, rfl, hnil, hcap, hat, rfl, hown, hg, hend, hsz⟩ := hrel
    rw [HL.out] at hil
    by_cases hlt : i < len0
    · have hlt' : (i : Int) < (len0 : Int) := by omega
      obtain ⟨x, hx⟩ : ∃ x, L[i]? = some x := ⟨_, List.getElem?_eq_getElem (by rw [HL.out]; exact hlt)⟩
      obtain ⟨g, o, rfl, c0, c1, c2⟩ := (HI.out.grown hg).2.2 i x hx
      have hxn := HI.out.2.1 x (List.mem_of_getElem? hx)
      have b0 : (0 : Int) ≤ (i : Int) := by omega
      by_cases hbig : 1024 < x.s.size
      · have hbig' : (1024 : Int) < (x.s.size : Int) := by omega
        go_wp2_with fail
        refine (works_any _).mono ?_
        rintro e w5 ⟨rfl, hg5⟩
        have hg' := grown_trans hg hg5
        clear hg hg5 hown hat
        go_wp2
        go_ret
        exact ⟨rfl, hg'⟩
      · have hbig' : ¬ (1024 : Int) < (x.s.size : Int) := by omega
        have hend' := end_grows L i x hx hend (by omega) hxn
        have hend2 : endOf L i ≤ 70000 := by omega
        have hend3 : endOf L (i + 1) ≤ 70000 := by omega
        have Hsz' : Hid (∀ j y, j < i + 1 → L[j]? = some y → y.s.size ≤ 1024) := by
          intro j y hj hy
          by_cases hji : j < i
          · exact hsz j y hji hy
          · obtain rfl : j = i := by omega
            rw [hx] at hy
            cases hy
            omega
        cases his : x.is with
        | true =>
          have hc := Text_any ad (endOf L i) cap (encAll (L.take i)) x.s wr rfl hat hnil (by omega)
          have ee : encAll (L.take i) ++ num x.s.size ++ bytesOf x.s = encAll (L.take (i + 1)) := by
            rw [encAll_take_succ L i x hx, enc, if_pos his, List.append_assoc]
          rw [ee] at hc
          have HC := Lib.hid hc
          have hE : (encAll (L.take (i + 1))).length = endOf L (i + 1) := rfl
          generalize hY : encAll (L.take (i + 1)) = Y at HC hE
          have HY := Lib.hid hY
          have HE := Lib.hid hE
          have HIS := Lib.hid his
          clear hc ee hE hY
          rw [his] at c0
          clear his
          go_wp2_with fail
          refine HC.out.mono ?_
          rintro e w1 ⟨ad1, cap1, rfl, hat1, hn1, ⟨hcap1, hlow1⟩, hg1⟩
          have hown1 := owns_new hown hg1
          rw [HE.out] at hn1 hcap1 ⊢
          have hob : ∀ g', (Value.slice ade i cape).ownBlock = some g' → g' < wr.heap.size := fun g' h => (hown.lt g' h).2
          have hob2 : ∀ g', (Value.slice ade i cape).ownBlock = some g' → w.heap.size ≤ g' := fun g' h => (hown.lt g' h).1
          have hgw1 := grown_trans hg hg1
          have hsz1 := hgw1.size
          clear HC hown hat hg hg1
          go_wp2_with (at_builtin; refine wpList_append_at rfl _ _ 53 rfl w.heap.size 3 i0 (.int .i64 0) 8 Try.underlying53 hi hz0 hz1 hz2 rfl _ i (endsL L i) rfl (hown1.alloc _) (some ⟨w1.heap.size, 0, none⟩) 1 1 [Value.int .i64 ((endOf L (i + 1) : Nat) : Int)] rfl ?_ (at_one _ _ _) ?_ (one_oneCell _ _) ?_ ?_ ?_ ?_)
          · rfl
          · simp
          · unfold maxLen; omega
          · omega
          · simp; omega
          intro v2 w2 hown2 hg2
          obtain ⟨ad2, cap2, rfl, _⟩ := owns_slice hown2
          have hg2' := grown_new (grown_trans hgw1 (World.grownBy_alloc w1 _ none)) hg2 hob2
          have hat2 : At w2 ad1 (Y.map bv) := at_made (hat1.grown (World.grownBy_alloc w1 (.cells #[.int .i64 ((endOf L (i + 1) : Nat) : Int)] 3) none) (by simp)) hg2 hlow1 hob
          clear hown1 hat1 hg2 hgw1
          go_wp2
          go_roundw
          case rel => exact ⟨i + 1, ad1, cap1, ad2, cap2, by rw [HL.out]; omega, by go_num, rfl, hn1, hcap1, by rw [HY.out]; exact hat2, rfl, by rw [endsL_succ]; exact hown2, hg2', hend', Hsz'.out⟩
          case measure => simp [intOf]; omega
        | false =>
          have hc := Number_any ad (endOf L i) cap (encAll (L.take i)) x.n wr hxn rfl hat hnil (by omega)
          have ee : encAll (L.take i) ++ num x.n = encAll (L.take (i + 1)) := by
            rw [encAll_take_succ L i x hx, enc, if_neg (by rw [his]; decide)]
          rw [ee] at hc
          have HC := Lib.hid hc
          have hE : (encAll (L.take (i + 1))).length = endOf L (i + 1) := rfl
          generalize hY : encAll (L.take (i + 1)) = Y at HC hE
          have HY := Lib.hid hY
          have HE := Lib.hid hE
          have HIS := Lib.hid his
          clear hc ee hE hY
          rw [his] at c0
          clear his
          go_wp2_with fail
          refine HC.out.mono ?_
          rintro e w1 ⟨ad1, cap1, rfl, hat1, hn1, ⟨hcap1, hlow1⟩, hg1⟩
          have hown1 := owns_new hown hg1
          rw [HE.out] at hn1 hcap1 ⊢
          have hob : ∀ g', (Value.slice ade i cape).ownBlock = some g' → g' < wr.heap.size := fun g' h => (hown.lt g' h).2
          have hob2 : ∀ g', (Value.slice ade i cape).ownBlock = some g' → w.heap.size ≤ g' := fun g' h => (hown.lt g' h).1
          have hgw1 := grown_trans hg hg1
          have hsz1 := hgw1.size
          clear HC hown hat hg hg1
          go_wp2_with (at_builtin; refine wpList_append_at rfl _ _ 53 rfl w.heap.size 3 i0 (.int .i64 0) 8 Try.underlying53 hi hz0 hz1 hz2 rfl _ i (endsL L i) rfl (hown1.alloc _) (some ⟨w1.heap.size, 0, none⟩) 1 1 [Value.int .i64 ((endOf L (i + 1) : Nat) : Int)] rfl ?_ (at_one _ _ _) ?_ (one_oneCell _ _) ?_ ?_ ?_ ?_)
          · rfl
          · simp
          · unfold maxLen; omega
          · omega
          · simp; omega
          intro v2 w2 hown2 hg2
          obtain ⟨ad2, cap2, rfl, _⟩ := owns_slice hown2
          have hg2' := grown_new (grown_trans hgw1 (World.grownBy_alloc w1 _ none)) hg2 hob2
          have hat2 : At w2 ad1 (Y.map bv) := at_made (hat1.grown (World.grownBy_alloc w1 (.cells #[.int .i64 ((endOf L (i + 1) : Nat) : Int)] 3) none) (by simp)) hg2 hlow1 hob
          clear hown1 hat1 hg2 hgw1
          go_wp2
          go_roundw
          case rel => exact ⟨i + 1, ad1, cap1, ad2, cap2, by rw [HL.out]; omega, by go_num, rfl, hn1, hcap1, by rw [HY.out]; exact hat2, rfl, by rw [endsL_succ]; exact hown2, hg2', hend', Hsz'.out⟩
          case measure => simp [intOf]; omega
    · obtain rfl : i = len0 := by omega
      obtain ⟨N, HN⟩ : ∃ N, Hid (N = endOf L i) := ⟨_, Lib.hid rfl⟩
      rw [← HN.out] at hnil hcap hend ⊢
      have hbn : (encAll (L.take i)).length = N := HN.out.symm
      rw [List.take_of_length_le (by rw [HL.out]; exact Nat.le_refl _)] at hbn hat
      obtain ⟨K, HK⟩ : ∃ K, Hid (K = n % (N + 1)) := ⟨_, Lib.hid rfl⟩
      have hKN : K ≤ N := by rw [HK.out]; have := Nat.mod_lt n (show 0 < N + 1 by omega); omega
      have hK : (n : Int) % ((N : Int) + 1) = (K : Int) := by rw [HK.out]; simp
      have hz0 : (((N : Int) + 1) == 0) = false := by rw [beq_eq_false_iff_ne]; omega
      have hz1' : (0 : Int) ≤ (N : Int) := by omega
      have hN7 : N ≤ 70000 := by omega
      obtain ⟨all, Hall⟩ : ∃ all, Hid (all = (encAll L).take K) := ⟨_, Lib.hid rfl⟩
      have hall : all.length = K := by rw [Hall.out, List.length_take]; omega
      have hatK : At wr ad (all.map bv) := by
        rw [Hall.out]
        have e : (encAll L).map bv = ((encAll L).take K).map bv ++ ((encAll L).drop K).map bv := by rw [← List.map_append, List.take_append_drop]
        rw [e] at hat
        exact at_prefix hat
      have b0 : (0 : Int) ≤ (K : Int) := by omega
      have b1 : (K : Int) ≤ (cap : Int) := by omega
      have hnew := New_any ad K cap all wr hall hatK (fun e => by have := hnil e; omega) (by omega)
      have HNew := Lib.hid hnew
      have HAll := Lib.hid hall
      obtain ⟨ade', cape', hee, hEn, _, _, _⟩ := owns_slice hown
      cases hee
      have hEb : ∀ a, ade = some a → a.block < wr.heap.size := fun a ha => (hown.lt a.block (by rw [ha]; rfl)).2
      obtain ⟨B, HB⟩ : ∃ B, Hid (B = wr.heap.size) := ⟨_, Lib.hid rfl⟩
      have hBw : w.heap.size ≤ B := by rw [HB.out]; exact hg.size
      rw [← HB.out] at hEb
      have Heb := Lib.hid hEb
      have HBN := Lib.hid hbn
      have HSz := Lib.hid hsz
      clear hnew hat hatK hown hnil hcap hall hEb hbn hend hsz
      go_wp2_with fail
      refine HNew.out.mono ?_
      rintro e w1 ⟨g, d, rfl, hT, hg1⟩
      rw [← HB.out] at hT
      have HgB := Lib.hid hT.low
      have HgW := Lib.hid (Nat.le_trans hBw hT.low)
      have hEn := hEn.grown hg1 (by simp)
      have hg := grown_trans hg hg1
      clear hg1 HNew
      go_wp2_with fail
      go_loopw [10, 11] (fun s10 s11 wr => Rel2 w L K i B g d all ade s10 s11 wr) (fun _ s11 _ => i - (intOf s11).toNat)
      case atStart =>
        have e0 : decide (K < endOf L 0) = false := by simp [endOf, encAll_nil]
        exact ⟨0, 0, Nat.zero_le _, rfl, by rw [e0], fun _ => rfl, by rw [e0]; exact hT, hEn, hg⟩
      case round =>
        obtain ⟨j, a, hj, rfl, rfl, ha, hT, hEn, hg⟩ := hrel
        by_cases hlt : j < i
        · have hlt' : (j : Int) < (i : Int) := by omega
          have b0 : (0 : Int) ≤ (j : Int) := by omega
          obtain ⟨x, hx⟩ : ∃ x, L[j]? = some x := ⟨_, List.getElem?_eq_getElem (by rw [HL.out]; exact hlt)⟩
          obtain ⟨gi, oi, rfl, c0, c1, c2⟩ := (HI.out.grown hg).2.2 j x hx
          have hxn := HI.out.2.1 x (List.mem_of_getElem? hx)
          have hxs := HSz.out j x hlt hx
          have hmono := end_mono L j x hx
          have hev : (endsL L i)[j]? = some (.int .i64 (endOf L (j + 1) : Int)) := by simp [endsL, hlt]
          obtain ⟨q, oq, rfl, ce⟩ := hEn j _ hev
          clear hev
          by_cases hnt : K < endOf L j
          · have ht : decide (K < endOf L j) = true := by simp; omega
            rw [ht] at hT ⊢
            have hnt' : (K : Int) < (endOf L (j + 1) : Int) := by omega
            have HA := Lib.hid ha
            clear ha ht
            cases his : x.is with
            | true =>
              have hnew : decide (K < endOf L (j + 1)) = true := by simp; omega
              have HNEW := Lib.hid hnew
              clear hnew
              rw [his] at c0
              have hrd := Text_step_any B g d all a true (x.s.size : Int) wr (by omega) hT
              rw [textR_torn] at hrd
              rw [str_nil] at hrd
              have HRD := Lib.hid hrd
              have HIS := Lib.hid his
              clear hrd his
              go_wp2_with fail
              refine HRD.out.mono ?_
              rintro e w2 ⟨rfl, hT2, hg2⟩
              have hTn := Lib.hid (Torn_some g true w2 hT2.facts.2.2.1)
              have hEn2 := at_tape hEn hg2 Heb.out HgB.out
              have hgw2 := grown_new hg hg2 (by intro k e; cases e; exact HgW.out)
              obtain ⟨d0, d1, d2⟩ := items_at (HI.out.grown hgw2) j x hx
              rw [HIS.out] at d0
              clear hT hEn hg hg2 HRD c0 c1 c2 ce
              go_wp2_with fail
              refine hTn.out.mono ?_
              rintro e w3 ⟨rfl, rfl⟩
              go_wp2
              go_roundw
              case rel => exact ⟨j + 1, _, by omega, by go_num, by rw [HNEW.out], fun h => absurd (of_decide_eq_true HNEW.out) h, by rw [HNEW.out]; exact hT2, hEn2, hgw2⟩
              case measure => simp [intOf]; omega
            | false =>
              have hnew : decide (K < endOf L (j + 1)) = true := by simp; omega
              have HNEW := Lib.hid hnew
              clear hnew
              rw [his] at c0
              have hrd := Number_step_any B g d all a true wr hT
              rw [numberR_torn] at hrd
              have HRD := Lib.hid hrd
              have HIS := Lib.hid his
              clear hrd his
              go_wp2_with fail
              refine HRD.out.mono ?_
              rintro e w2 ⟨rfl, hT2, hg2⟩
              have hTn := Lib.hid (Torn_some g true w2 hT2.facts.2.2.1)
              have hEn2 := at_tape hEn hg2 Heb.out HgB.out
              have hgw2 := grown_new hg hg2 (by intro k e; cases e; exact HgW.out)
              obtain ⟨d0, d1, d2⟩ := items_at (HI.out.grown hgw2) j x hx
              rw [HIS.out] at d0
              clear hT hEn hg hg2 HRD c0 c1 c2 ce
              go_wp2_with fail
              refine hTn.out.mono ?_
              rintro e w3 ⟨rfl, rfl⟩
              go_wp2
              go_roundw
              case rel => exact ⟨j + 1, _, by omega, by go_num, by rw [HNEW.out], fun h => absurd (of_decide_eq_true HNEW.out) h, by rw [HNEW.out]; exact hT2, hEn2, hgw2⟩
              case measure => simp [intOf]; omega
          · have ht : decide (K < endOf L j) = false := by simp; omega
            rw [ht] at hT ⊢
            have ha := ha hnt
            by_cases hce : endOf L (j + 1) ≤ K
            · have hce' : ¬ (K : Int) < (endOf L (j + 1) : Int) := by omega
              clear ht
              cases his : x.is with
              | true =>
                have hnew : decide (K < endOf L (j + 1)) = false := by simp; omega
                have HNEW := Lib.hid hnew
                clear hnew
                rw [his] at c0
                have hrd := Text_step_any B g d all a false (x.s.size : Int) wr (by omega) hT
                have hm := read_text L j x hx his (by omega) K hce
                rw [ha, Hall.out] at hrd
                rw [show endOf L j = (encAll (L.take j)).length from rfl, hm, ← Hall.out] at hrd
                rw [str_bytesOf] at hrd
                have HRD := Lib.hid hrd
                have HIS := Lib.hid his
                clear hrd his hm
                go_wp2_with fail
                refine HRD.out.mono ?_
                rintro e w2 ⟨rfl, hT2, hg2⟩
                have hTn := Lib.hid (Torn_some g false w2 hT2.facts.2.2.1)
                have hEn2 := at_tape hEn hg2 Heb.out HgB.out
                have hgw2 := grown_new hg hg2 (by intro k e; cases e; exact HgW.out)
                obtain ⟨d0, d1, d2⟩ := items_at (HI.out.grown hgw2) j x hx
                rw [HIS.out] at d0
                clear hT hEn hg hg2 HRD c0 c1 c2 ce
                go_wp2_with fail
                refine hTn.out.mono ?_
                rintro e w3 ⟨rfl, rfl⟩
                go_wp2
                go_roundw
                case rel => exact ⟨j + 1, _, by omega, by go_num, by rw [HNEW.out], fun _ => rfl, by rw [HNEW.out]; exact hT2, hEn2, hgw2⟩
                case measure => simp [intOf]; omega
              | false =>
                have hnew : decide (K < endOf L (j + 1)) = false := by simp; omega
                have HNEW := Lib.hid hnew
                clear hnew
                rw [his] at c0
                have hrd := Number_step_any B g d all a false wr hT
                have hm := read_number L j x hx his hxn K hce
                rw [ha, Hall.out] at hrd
                rw [show endOf L j = (encAll (L.take j)).length from rfl, hm, ← Hall.out] at hrd
                have HRD := Lib.hid hrd
                have HIS := Lib.hid his
                clear hrd his hm
                go_wp2_with fail
                refine HRD.out.mono ?_
                rintro e w2 ⟨rfl, hT2, hg2⟩
                have hTn := Lib.hid (Torn_some g false w2 hT2.facts.2.2.1)
                have hEn2 := at_tape hEn hg2 Heb.out HgB.out
                have hgw2 := grown_new hg hg2 (by intro k e; cases e; exact HgW.out)
                obtain ⟨d0, d1, d2⟩ := items_at (HI.out.grown hgw2) j x hx
                rw [HIS.out] at d0
                clear hT hEn hg hg2 HRD c0 c1 c2 ce
                go_wp2_with fail
                refine hTn.out.mono ?_
                rintro e w3 ⟨rfl, rfl⟩
                go_wp2
                go_roundw
                case rel => exact ⟨j + 1, _, by omega, by go_num, by rw [HNEW.out], fun _ => rfl, by rw [HNEW.out]; exact hT2, hEn2, hgw2⟩
                case measure => simp [intOf]; omega
            · have hce' : (K : Int) < (endOf L (j + 1) : Int) := by omega
              clear ht
              cases his : x.is with
              | true =>
                have hnew : decide (K < endOf L (j + 1)) = true := by simp; omega
                have HNEW := Lib.hid hnew
                clear hnew
                rw [his] at c0
                have hrd := Text_step_any B g d all a false (x.s.size : Int) wr (by omega) hT
                have hm := cut_text L j x hx his (by omega) K (Nat.le_of_not_lt hnt) (Nat.lt_of_not_le hce)
                rw [ha, Hall.out] at hrd
                rw [show endOf L j = (encAll (L.take j)).length from rfl, hm, ← Hall.out] at hrd
                rw [str_nil] at hrd
                have HRD := Lib.hid hrd
                have HIS := Lib.hid his
                clear hrd his hm
                go_wp2_with fail
                refine HRD.out.mono ?_
                rintro e w2 ⟨rfl, hT2, hg2⟩
                have hTn := Lib.hid (Torn_some g true w2 hT2.facts.2.2.1)
                have hEn2 := at_tape hEn hg2 Heb.out HgB.out
                have hgw2 := grown_new hg hg2 (by intro k e; cases e; exact HgW.out)
                obtain ⟨d0, d1, d2⟩ := items_at (HI.out.grown hgw2) j x hx
                rw [HIS.out] at d0
                clear hT hEn hg hg2 HRD c0 c1 c2 ce
                go_wp2_with fail
                refine hTn.out.mono ?_
                rintro e w3 ⟨rfl, rfl⟩
                go_wp2
                go_roundw
                case rel => exact ⟨j + 1, _, by omega, by go_num, by rw [HNEW.out], fun h => absurd (of_decide_eq_true HNEW.out) h, by rw [HNEW.out]; exact hT2, hEn2, hgw2⟩
                case measure => simp [intOf]; omega
              | false =>
                have hnew : decide (K < endOf L (j + 1)) = true := by simp; omega
                have HNEW := Lib.hid hnew
                clear hnew
                rw [his] at c0
                have hrd := Number_step_any B g d all a false wr hT
                have hm := cut_number L j x hx his hxn K (Nat.le_of_not_lt hnt) (Nat.lt_of_not_le hce)
                rw [ha, Hall.out] at hrd
                rw [show endOf L j = (encAll (L.take j)).length from rfl, hm, ← Hall.out] at hrd
                have HRD := Lib.hid hrd
                have HIS := Lib.hid his
                clear hrd his hm
                go_wp2_with fail
                refine HRD.out.mono ?_
                rintro e w2 ⟨rfl, hT2, hg2⟩
                have hTn := Lib.hid (Torn_some g true w2 hT2.facts.2.2.1)
                have hEn2 := at_tape hEn hg2 Heb.out HgB.out
                have hgw2 := grown_new hg hg2 (by intro k e; cases e; exact HgW.out)
                obtain ⟨d0, d1, d2⟩ := items_at (HI.out.grown hgw2) j x hx
                rw [HIS.out] at d0
                clear hT hEn hg hg2 HRD c0 c1 c2 ce
                go_wp2_with fail
                refine hTn.out.mono ?_
                rintro e w3 ⟨rfl, rfl⟩
                go_wp2
                go_roundw
                case rel => exact ⟨j + 1, _, by omega, by go_num, by rw [HNEW.out], fun h => absurd (of_decide_eq_true HNEW.out) h, by rw [HNEW.out]; exact hT2, hEn2, hgw2⟩
                case measure => simp [intOf]; omega
        · obtain rfl : j = i := by omega
          rw [← HN.out] at ha hT ⊢
          by_cases hnt : K < N
          · have ht : decide (K < N) = true := by simp; omega
            rw [ht] at hT ⊢
            have HEnd := Lib.hid (End_any B g d all a true wr hT)
            clear ha ht
            go_wp2_with fail
            refine HEnd.out.mono ?_
            rintro e w2 ⟨rfl, hT2, hg2⟩
            have hgw2 := grown_new hg hg2 (by intro k e; cases e; exact HgW.out)
            have hby := Byte_any B g d all a true w2 hT2
            rw [byteR_torn] at hby
            have HBY := Lib.hid hby
            clear hby hg hg2 hT hEn HEnd
            go_wp2_with fail
            refine HBY.out.mono ?_
            rintro e w3 ⟨rfl, hT3, hg3⟩
            have hgw3 := grown_new hgw2 hg3 (by intro k e; cases e; exact HgW.out)
            clear hgw2 hg3 hT2 HBY
            go_wp2_with fail
            refine (works_any _).mono ?_
            rintro e w4 ⟨rfl, hg4⟩
            have hgw4 := grown_trans hgw3 hg4
            clear hgw3 hg4
            go_wp2
            go_ret
            exact ⟨rfl, hgw4⟩
          · have ht : decide (K < N) = false := by simp; omega
            rw [ht] at hT ⊢
            have hen := End_any B g d all a false wr hT
            have hat2 : decide (a = all.length) = true := by
              have h1 := ha hnt
              have h2 := HAll.out
              simp; omega
            rw [hat2] at hen
            have HEnd := Lib.hid hen
            clear ha ht hen hat2
            go_wp2_with fail
            refine HEnd.out.mono ?_
            rintro e w2 ⟨rfl, hT2, hg2⟩
            have hgw2 := grown_new hg hg2 (by intro k e; cases e; exact HgW.out)
            clear hg hg2 hT hEn HEnd
            go_wp2_with fail
            refine (works_any _).mono ?_
            rintro e w4 ⟨rfl, hg4⟩
            have hgw4 := grown_trans hgw2 hg4
            clear hgw2 hg4
            go_wp2
            go_ret
            exact ⟨rfl, hgw4⟩

theorem walk (a0 : Option Addr) (len0 cap0 : Nat) (z0 : List It) (a1 : Int) (w : World) (w0 : ItemsIn w a0 len0 z0) (w1 : (Lit.int .u16 a1).wf = true) : Calls Try.prog 8 #[.slice a0 len0 cap0, .int .u16 a1] w (WorksIs w) := by
  by_cases h : len0 ≤ 60
  · have b1 : 0 ≤ a1 ∧ a1 ≤ 65535 := bounds_u16 w1
    obtain ⟨n, rfl⟩ := Int.eq_ofNat_of_zero_le b1.1
    exact walk_at a0 len0 cap0 z0 n w (by omega) w0 h
  · exact walk_far a0 len0 cap0 a1 w (by omega)
end octetCut
end Go.Proofs.Ytingkjmbeloepaa
