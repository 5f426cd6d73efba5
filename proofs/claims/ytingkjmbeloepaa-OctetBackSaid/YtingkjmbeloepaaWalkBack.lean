/- OctetBack, walked: the first loop. -/
import Derived.Test.YtingkjmbeloepaaItemMath
import Derived.Test.YtingkjmbeloepaaBackMath
import Derived.Test.YtingkjmbeloepaaOctX
import Derived.Test.YtingkjmbeloepaaBase4
import Derived.Test.YtingkjmbeloepaaWordsMath
import Derived.Test.YtingkjmbeloepaaBase3
import Derived.Deep.RegionHeld3
import Derived.Deep.RegionHeld
import Derived.Deep.DrawnRows
namespace Go.Proofs.Ytingkjmbeloepaa.octetBack
open Go.RowKit Go.Grommet
attribute [local go_sem ↓] Go.wp_at_zero Go.wp_at_succ

/-- So many words in new memory. -/
def WordsAt (J : Nat) (ws : List Nat) (w : World) (e : Ending) (w' : World) : Prop :=
  e = .returned (.slice (some ⟨w.heap.size, 0, none⟩) J J) ∧ At w' (some ⟨w.heap.size, 0, none⟩) (ws.map wv) ∧ w.grownBy w' none

theorem Pack_at (s : ByteArray) (J : Nat) (hJ : J = (s.size + 7) / 8) (w : World) (hs : s.size ≤ 1048576) : Calls Try.prog 18 #[.string s] w (WordsAt J (words (bytesOf s) J) w) := by
  have h := Pack_any s w hs
  rw [← hJ] at h
  refine h.mono ?_
  rintro e w' ⟨he, hW, hg⟩
  rw [length_words] at he hW
  obtain ⟨ad, cap, h1, ha, _⟩ := at_of_owns hW
  cases h1
  exact ⟨he, ha, hg⟩

theorem Unpack_back (s : ByteArray) (J : Nat) (hJ : J = (s.size + 7) / 8) (ad : Option Addr) (w : World) (hs : s.size ≤ 1048576) (hat : At w ad ((words (bytesOf s) J).map wv)) :
    Calls Try.prog 13 #[.slice ad J J, .int .i64 (s.size : Int)] w (TextErr s 0 w) := by
  have h := Unpack_any ad J J (words (bytesOf s) J) (s.size : Int) w (length_words _ _) hat (by omega) (by omega)
  have e : unpackR (words (bytesOf s) J) (s.size : Int) = (bytesOf s, 0) := by
    unfold unpackR
    rw [if_neg (by rw [length_words]; intro h; rcases h with h | h <;> omega), Int.toNat_natCast, unpack_words _ _ _ (by omega), pad_le _ _ (by rw [length_bytesOf]; exact Nat.le_refl _), List.take_of_length_le (by rw [length_bytesOf]; exact Nat.le_refl _)]
  rw [e, str_bytesOf] at h
  exact h

/-- What stands while a text is packed and unpacked: the cell that holds it. -/
theorem keep_drew {wa : World} {ad : Addr} {v : Value} (h : wa.cell? ad = some v) : wa.drew.cell? ad = some v ∧ wa.grownBy wa.drew none := ⟨h, grown_drew (World.grownBy.refl _ _)⟩
theorem keep_again {wa w' w'' : World} {ad : Addr} {v : Value} (h : w'.cell? ad = some v ∧ wa.grownBy w' none) (hg : w'.grownBy w'' none) : w''.cell? ad = some v ∧ wa.grownBy w'' none := ⟨hg.cell h.1 (by simp), grown_trans h.2 hg⟩
theorem keep_first {wa w'' : World} {ad : Addr} {v : Value} (h : wa.cell? ad = some v) (hg : wa.drew.grownBy w'' none) : w''.cell? ad = some v ∧ wa.grownBy w'' none := keep_again (keep_drew h) hg

set_option maxRecDepth 100000 in
set_option maxHeartbeats 400000 in
theorem walk_far (a0 : Option Addr) (len0 cap0 : Nat) (a1 : Option Addr) (len1 cap1 : Nat) (w : World) (h : 60 < len0 ∨ 1024 < len1) : Calls Try.prog 5 #[.slice a0 len0 cap0, .slice a1 len1 cap1] w (WorksIs w) := by
  by_cases h0 : 60 < len0
  · have h1 : (60 : Int) < (len0 : Int) := by omega
    go_enter Try.func5, Try.ntmps5
    go_wp2_with fail
    refine (works_any _).mono ?_
    rintro e w5 ⟨rfl, hg⟩
    go_wp2
    go_ret
    exact ⟨rfl, hg⟩
  · have h1 : ¬ (60 : Int) < (len0 : Int) := by omega
    have h2 : (1024 : Int) < (len1 : Int) := by omega
    go_enter Try.func5, Try.ntmps5
    go_wp2_with fail
    refine (works_any _).mono ?_
    rintro e w5 ⟨rfl, hg⟩
    go_wp2
    go_ret
    exact ⟨rfl, hg⟩

/-- Where the first j items end. -/
def endOf (L : List It) (j : Nat) : Nat := (encAll (L.take j)).length

theorem enc_pos (L : List It) (j : Nat) (x : It) (hx : L[j]? = some x) : endOf L j < (encAll L).length := by
  have e := encAll_split L j x hx
  have h : 0 < (enc x).length := by
    unfold enc
    split
    · rw [List.length_append, length_num]; omega
    · rw [length_num]; omega
  unfold endOf
  rw [e, List.length_append, List.length_append]; omega

theorem end_le (L : List It) (j : Nat) : endOf L j ≤ (encAll L).length := encAll_le L j

/-- What holds at each round of the second loop. -/
def Rel2 (w : World) (L : List It) (len0 B g d : Nat) (s10 : Value) (wr : World) : Prop :=
  ∃ j, j ≤ len0 ∧ s10 = .int .i64 (j : Int) ∧ TapeIs wr B g d (encAll L) (endOf L j) false ∧ w.grownBy wr none

/-- What holds at each round of the third loop: k numbers were read, a bytes; put again they are what stood there. -/
def Rel3 (w : World) (raw : List UInt8) (B g d : Nat) (s12 s13 : Value) (wr : World) : Prop :=
  ∃ k a ad cp, k ≤ a ∧ a ≤ raw.length ∧ s13 = .int .i64 (k : Int) ∧ s12 = .slice ad a cp ∧ (ad = none → a = 0 ∧ cp = 0) ∧ a ≤ cp ∧ At wr ad ((raw.take a).map bv) ∧ TapeIs wr B g d raw a false ∧ w.grownBy wr none ∧ (∀ x, ad = some x → x.block ≠ g ∧ w.heap.size ≤ x.block)

/-- What holds at each round of the first loop. -/
def Rel1 (w : World) (L : List It) (s5 s6 : Value) (wr : World) : Prop :=
  ∃ i ad cap, i ≤ L.length ∧ s6 = .int .i64 (i : Int) ∧ s5 = .slice ad (endOf L i) cap ∧ (ad = none → endOf L i = 0 ∧ cap = 0) ∧ At wr ad ((encAll (L.take i)).map bv) ∧
    w.grownBy wr none ∧ endOf L i ≤ i * 1040 ∧ (∀ j x, j < i → L[j]? = some x → x.s.size ≤ 1024)

theorem end_grows (L : List It) (i : Nat) (x : It) (hx : L[i]? = some x) (h : endOf L i ≤ i * 1040) (hs : x.s.size ≤ 1024) (hn : x.n < 2 ^ 64) : endOf L (i + 1) ≤ (i + 1) * 1040 := by
  have e := encAll_take_succ L i x hx
  unfold endOf at h ⊢
  rw [e, List.length_append]
  have h8 := nb_le x.n hn
  have h9 := nb_le x.s.size (by omega)
  have : (enc x).length ≤ 1040 := by
    unfold enc
    split
    · rw [List.length_append, length_num, length_bytesOf]; omega
    · rw [length_num]; omega
  omega

theorem items_at {w : World} {g o len : Nat} {L : List It} (h : ItemsIn w (some ⟨g, o, none⟩) len L) (i : Nat) (x : It) (hx : L[i]? = some x) :
    w.cell? ⟨g, o + i * 3, none⟩ = some (.bool x.is) ∧ w.cell? ⟨g, o + i * 3 + 1, none⟩ = some (.int .u64 (x.n : Int)) ∧ w.cell? ⟨g, o + i * 3 + 2, none⟩ = some (.string x.s) := by
  obtain ⟨g', o', ha, h0, h1, h2⟩ := h.2.2 i x hx
  cases ha
  exact ⟨h0, h1, h2⟩

theorem item_keep {w w' : World} {g o len : Nat} {L : List It} {i : Nat} {x : It} {b : Bool} (h : ItemsIn w (some ⟨g, o, none⟩) len L) (hx : L[i]? = some x) (hb : x.is = b) (hg : w.grownBy w' none) :
    w'.cell? ⟨g, o + i * 3, none⟩ = some (.bool b) ∧ w'.cell? ⟨g, o + i * 3 + 1, none⟩ = some (.int .u64 (x.n : Int)) ∧ w'.cell? ⟨g, o + i * 3 + 2, none⟩ = some (.string x.s) := by
  have := items_at (h.grown hg) i x hx
  rw [hb] at this
  exact this

set_option maxRecDepth 100000 in
set_option maxHeartbeats 8000000 in
theorem walk_at (a0 : Option Addr) (len0 cap0 : Nat) (L : List It) (a1 : Option Addr) (len1 cap1 : Nat) (raw : List UInt8) (w : World) (hI : ItemsIn w a0 len0 L) (h : len0 ≤ 60) (hr : raw.length = len1) (hrat : At w a1 (raw.map bv)) (hrn : a1 = none → len1 = 0 ∧ cap1 = 0) (hr1 : len1 ≤ 1024) (hrc : len1 ≤ cap1) :
    Calls Try.prog 5 #[.slice a0 len0 cap0, .slice a1 len1 cap1] w (WorksIs w) := by
  have h1 : ¬ (60 : Int) < (len0 : Int) := by omega
  have h2 : ¬ (1024 : Int) < (len1 : Int) := by omega
  have d1 : decide ((60 : Int) < (len0 : Int)) = false := by simp; omega
  have d2 : decide ((1024 : Int) < (len1 : Int)) = false := by simp; omega
  have HI := Lib.hid hI
  have HL := Lib.hid hI.1
  have HR := Lib.hid hr
  have HRat := Lib.hid hrat
  have HRn := Lib.hid hrn
  clear hI hr hrat hrn
  go_enter Try.func5, Try.ntmps5
  go_wp2_with fail
  go_loopw [5, 6] (fun s5 s6 wr => Rel1 w L s5 s6 wr) (fun _ s6 _ => len0 - (intOf s6).toNat)
  case atStart => exact ⟨0, none, 0, Nat.zero_le _, rfl, rfl, fun _ => ⟨rfl, rfl⟩, At.nil _ _, World.grownBy.refl _ _, Nat.zero_le _, fun j x hj => by omega⟩
  case round =>
    obtain ⟨i, ad, cap, hil, rfl, rfl, hnil, hat, hg, hend, hsz⟩ := hrel
    rw [HL.out] at hil
    by_cases hlt : i < len0
    · have hlt' : (i : Int) < (len0 : Int) := by omega
      obtain ⟨x, hx⟩ : ∃ x, L[i]? = some x := ⟨_, List.getElem?_eq_getElem (by rw [HL.out]; exact hlt)⟩
      obtain ⟨g, o, rfl, c0, c1, c2⟩ := (HI.out.grown hg).2.2 i x hx
      have hxn := HI.out.2.1 x (List.mem_of_getElem? hx)
      have b0 : (0 : Int) ≤ (i : Int) := by omega
      by_cases hbig : 1024 < x.s.size
      · have hbig' : (1024 : Int) < (x.s.size : Int) := by omega
        go_wp2_with fail
        refine (works_any _).mono ?_
        rintro e w5 ⟨rfl, hg5⟩
        have hg' := grown_trans hg hg5
        clear hg hg5 hat
        go_wp2
        go_ret
        exact ⟨rfl, hg'⟩
      · have hbig' : ¬ (1024 : Int) < (x.s.size : Int) := by omega
        have hend' := end_grows L i x hx hend (by omega) hxn
        have hend2 : endOf L i ≤ 70000 := by omega
        have hend3 : endOf L (i + 1) ≤ 70000 := by omega
        have hxs : x.s.size ≤ 1024 := by omega
        have Hsz' : Hid (∀ j y, j < i + 1 → L[j]? = some y → y.s.size ≤ 1024) := by
          intro j y hj hy
          by_cases hji : j < i
          · exact hsz j y hji hy
          · obtain rfl : j = i := by omega
            rw [hx] at hy
            cases hy
            omega
        obtain ⟨J, HJ⟩ : ∃ J, Hid (J = (x.s.size + 7) / 8) := ⟨_, Lib.hid rfl⟩
        have HPk := Lib.hid (fun wx => Pack_at x.s J HJ.out wx (by omega))
        have HUn := Lib.hid (fun ad wx => Unpack_back x.s J HJ.out ad wx (by omega))
        cases his : x.is with
        | true =>
          have hc := Text_any ad (endOf L i) cap (encAll (L.take i)) x.s wr rfl hat hnil (by omega)
          have ee : encAll (L.take i) ++ num x.s.size ++ bytesOf x.s = encAll (L.take (i + 1)) := by
            rw [encAll_take_succ L i x hx, enc, if_pos his, List.append_assoc]
          rw [ee] at hc
          have HC := Lib.hid hc
          have hE : (encAll (L.take (i + 1))).length = endOf L (i + 1) := rfl
          generalize hY : encAll (L.take (i + 1)) = Y at HC hE
          have HY := Lib.hid hY
          have HE := Lib.hid hE
          have HIS := Lib.hid his
          clear hc ee hE hY
          rw [his] at c0
          clear his hsz
          go_wp2_with fail
          refine HC.out.mono ?_
          rintro e w1 ⟨ad1, cap1', rfl, hat1, hn1, _, hg1⟩
          rw [HE.out] at hn1 ⊢
          have hgw1 := grown_trans hg hg1
          obtain ⟨e0, e1, e2⟩ := items_at (HI.out.grown hgw1) i x hx
          clear HC hat hg hg1 c0 c1 c2
          go_wp2_with fail
          go_region_held3 (fun w' => w'.cell? ⟨g, o + i * 3 + 2, none⟩ = some (.string x.s) ∧ w1.grownBy w' none)
            (first | exact keep_drew e2 | (refine keep_first e2 ?_; assumption) | (apply keep_again; assumption; assumption))
            (first
              | (go_at_call 18; refine (HPk.out _).mono ?_; rintro e wC ⟨rfl, hC, hgC⟩)
              | (go_at_call 13; refine (HUn.out _ _ (by assumption)).mono ?_; rintro e wD ⟨rfl, hgD⟩))
          have hh : wD.cell? ⟨g, o + i * 3 + 2, none⟩ = some (.string x.s) ∧ w1.grownBy wD none := by assumption
          obtain ⟨f2, hgD1⟩ := hh
          have hat2 := hat1.grown hgD1 (by simp)
          have hgwD := grown_trans hgw1 hgD1
          clear hat1 hgw1 e0 e1 e2 hgD1
          go_wp2
          go_roundw
          case rel => exact ⟨i + 1, ad1, cap1', by rw [HL.out]; omega, by go_num, rfl, hn1, by rw [HY.out]; exact hat2, hgwD, hend', Hsz'.out⟩
          case measure => simp [intOf]; omega
        | false =>
          have hc := Number_any ad (endOf L i) cap (encAll (L.take i)) x.n wr hxn rfl hat hnil (by omega)
          have ee : encAll (L.take i) ++ num x.n = encAll (L.take (i + 1)) := by
            rw [encAll_take_succ L i x hx, enc, if_neg (by rw [his]; decide)]
          rw [ee] at hc
          have HC := Lib.hid hc
          have hE : (encAll (L.take (i + 1))).length = endOf L (i + 1) := rfl
          generalize hY : encAll (L.take (i + 1)) = Y at HC hE
          have HY := Lib.hid hY
          have HE := Lib.hid hE
          have HIS := Lib.hid his
          clear hc ee hE hY
          rw [his] at c0
          clear his hsz
          go_wp2_with fail
          refine HC.out.mono ?_
          rintro e w1 ⟨ad1, cap1', rfl, hat1, hn1, _, hg1⟩
          rw [HE.out] at hn1 ⊢
          have hgw1 := grown_trans hg hg1
          obtain ⟨e0, e1, e2⟩ := items_at (HI.out.grown hgw1) i x hx
          clear HC hat hg hg1 c0 c1 c2
          go_wp2_with fail
          go_region_held3 (fun w' => w'.cell? ⟨g, o + i * 3 + 2, none⟩ = some (.string x.s) ∧ w1.grownBy w' none)
            (first | exact keep_drew e2 | (refine keep_first e2 ?_; assumption) | (apply keep_again; assumption; assumption))
            (first
              | (go_at_call 18; refine (HPk.out _).mono ?_; rintro e wC ⟨rfl, hC, hgC⟩)
              | (go_at_call 13; refine (HUn.out _ _ (by assumption)).mono ?_; rintro e wD ⟨rfl, hgD⟩))
          have hh : wD.cell? ⟨g, o + i * 3 + 2, none⟩ = some (.string x.s) ∧ w1.grownBy wD none := by assumption
          obtain ⟨f2, hgD1⟩ := hh
          have hat2 := hat1.grown hgD1 (by simp)
          have hgwD := grown_trans hgw1 hgD1
          clear hat1 hgw1 e0 e1 e2 hgD1
          go_wp2
          go_roundw
          case rel => exact ⟨i + 1, ad1, cap1', by rw [HL.out]; omega, by go_num, rfl, hn1, by rw [HY.out]; exact hat2, hgwD, hend', Hsz'.out⟩
          case measure => simp [intOf]; omega
    · obtain rfl : i = len0 := by omega
      obtain ⟨N, HN⟩ : ∃ N, Hid (N = endOf L i) := ⟨_, Lib.hid rfl⟩
      rw [← HN.out] at hnil hend ⊢
      have hbn : (encAll (L.take i)).length = N := HN.out.symm
      rw [List.take_of_length_le (by rw [HL.out]; exact Nat.le_refl _)] at hbn hat
      have hN7 : N ≤ 70000 := by omega
      have HNew := Lib.hid (New_any ad N cap (encAll L) wr hbn hat hnil (by omega))
      have HSz := Lib.hid hsz
      have HBN := Lib.hid hbn
      have hgB0 := hg.size
      clear hat hnil hbn hend hsz
      go_wp2_with fail
      refine HNew.out.mono ?_
      rintro e w1 ⟨g, d, rfl, hT, hg1⟩
      have HgW := Lib.hid (Nat.le_trans hgB0 hT.low)
      have hg := grown_trans hg hg1
      generalize wr.heap.size = B at hT
      clear hg1 HNew hgB0
      go_wp2_with fail
      go_loopw [10] (fun s10 wr => Rel2 w L i B g d s10 wr) (fun s10 _ => i - (intOf s10).toNat)
      case atStart => exact ⟨0, Nat.zero_le _, rfl, hT, hg⟩
      case round =>
        obtain ⟨j, hj, rfl, hT, hg⟩ := hrel
        by_cases hlt : j < i
        · have hlt' : (j : Int) < (i : Int) := by omega
          have b0 : (0 : Int) ≤ (j : Int) := by omega
          obtain ⟨x, hx⟩ : ∃ x, L[j]? = some x := ⟨_, List.getElem?_eq_getElem (by rw [HL.out]; exact hlt)⟩
          obtain ⟨gi, oi, rfl, c0, c1, c2⟩ := (HI.out.grown hg).2.2 j x hx
          have hxn := HI.out.2.1 x (List.mem_of_getElem? hx)
          have hxs := HSz.out j x hlt hx
          have hpos := enc_pos L j x hx
          have HEn : Hid (∀ wx, TapeIs wx B g d (encAll L) (endOf L j) false → Calls Try.prog 28 #[.pointer (some ⟨g, 0, none⟩)] wx (StepIs (.bool false) wx B g d (encAll L) (endOf L j) false)) := by
            intro wx hx1
            have h := End_any B g d (encAll L) (endOf L j) false wx hx1
            have e : decide (endOf L j = (encAll L).length) = false := by simp; omega
            rwa [e] at h
          have HTo : Hid (∀ wx, TapeIs wx B g d (encAll L) (endOf L (j + 1)) false → Calls Try.prog 27 #[.pointer (some ⟨g, 0, none⟩)] wx (StepIs (.bool false) wx B g d (encAll L) (endOf L (j + 1)) false)) := fun wx hx1 => Torn_any B g d (encAll L) (endOf L (j + 1)) false wx hx1
          cases his : x.is with
          | true =>
            have HRd : Hid (∀ wx, TapeIs wx B g d (encAll L) (endOf L j) false → Calls Try.prog 25 #[.pointer (some ⟨g, 0, none⟩), .int .i64 (x.s.size : Int)] wx (StepIs (.string x.s) wx B g d (encAll L) (endOf L (j + 1)) false)) := by
              intro wx hx1
              have hrd := Text_step_any B g d (encAll L) (endOf L j) false (x.s.size : Int) wx (by omega) hx1
              have hm := read_text L j x hx his (by omega) (encAll L).length (encAll_le L (j + 1))
              rw [List.take_length] at hm
              rw [show endOf L j = (encAll (L.take j)).length from rfl, hm] at hrd
              rw [str_bytesOf] at hrd
              exact hrd
            have HIS := Lib.hid his
            rw [his] at c0
            clear his
            go_wp2_with fail
            have hTd := hT.keep (row := none) (grown_drew (World.grownBy.refl wr none)) (by simp) (by simp)
            have hgd := grown_drew hg
            clear hT hg
            have HK := Lib.hid (fun wx => item_keep (w' := wx) HI.out hx HIS.out)
            have hBg := HgW.out
            have hq1 : (x.s.toList != x.s.toList) = false := by simp
            refine wp_region_held_drew (S := fun w' => w.grownBy w' none) (by kernel_rfl) (hgd) (fun hS => ?_)
            refine wpAnyH_take (i := 0) (oi := { dst := some 94, op := Op.move (Operand.tmp 9), type := 35, pos := "law.go:122", after := #[], guard := none }) (v := ?vb15r21o0) rfl (by kernel_rfl) (by kernel_rfl) (by kernel_rfl) (fun _ _ _ h => h) (Or.inl ⟨by rfl, ?hb15r21o0⟩) hS ?_
            case hb15r21o0 => (intro wx hx; skip; go_simp; (try with_reducible rfl))
            try simp only [Act.put, List.setIfInBounds_toArray, List.set_cons_zero, List.set_cons_succ]
            refine wpAnyH_ready (rs := [1]) (by kernel_rfl) (by simp) ?_
            refine AllReadyH.cons (o := { dst := some 95, op := Op.call { callee := Callee.value (Operand.func 28), args := #[Operand.tmp 94], argTypes := #[35] }, type := 4, pos := "law.go:122", after := #[{ on := 0, ground := Ground.data }], guard := none }) rfl (fun K hK => ?_) AllReadyH.nil
            go_simp
            refine (HEn.out _ hTd).mono ?_
            rintro e wA ⟨rfl, hTA, hgA⟩
            have hgwA := grown_new hgd hgA (by intro k e; cases e; exact hBg)
            refine hK.out _ _ ?hsb15r21o1 (fun hS => ?_)
            case hsb15r21o1 => (assumption)
            clear hK K
            try simp only [Act.put, List.setIfInBounds_toArray, List.set_cons_zero, List.set_cons_succ]
            refine wpAnyH_take (i := 2) (oi := { dst := some 96, op := Op.move (Operand.tmp 95), type := 4, pos := "law.go:122", after := #[{ on := 1, ground := Ground.data }, { on := 1, ground := Ground.chain }], guard := none }) (v := ?vb15r21o2) rfl (by kernel_rfl) (by kernel_rfl) (by kernel_rfl) (fun _ _ _ h => h) (Or.inl ⟨by rfl, ?hb15r21o2⟩) hS ?_
            case hb15r21o2 => (intro wx hx; skip; go_simp; (try with_reducible rfl))
            try simp only [Act.put, List.setIfInBounds_toArray, List.set_cons_zero, List.set_cons_succ]
            refine wpAnyH_take (i := 3) (oi := { dst := some 97, op := Op.move (Operand.tmp 0), type := 46, pos := "law.go:122", after := #[{ on := 2, ground := Ground.guard }], guard := some (2, false) }) (v := ?vb15r21o3) rfl (by kernel_rfl) (by kernel_rfl) (by kernel_rfl) (fun _ _ _ h => h) (Or.inl ⟨by rfl, ?hb15r21o3⟩) hS ?_
            case hb15r21o3 => (intro wx hx; skip; go_simp; (try with_reducible rfl))
            try simp only [Act.put, List.setIfInBounds_toArray, List.set_cons_zero, List.set_cons_succ]
            refine wpAnyH_take (i := 4) (oi := { dst := some 98, op := Op.move (Operand.tmp 10), type := 3, pos := "law.go:122", after := #[{ on := 2, ground := Ground.guard }], guard := some (2, false) }) (v := ?vb15r21o4) rfl (by kernel_rfl) (by kernel_rfl) (by kernel_rfl) (fun _ _ _ h => h) (Or.inl ⟨by rfl, ?hb15r21o4⟩) hS ?_
            case hb15r21o4 => (intro wx hx; skip; go_simp; (try with_reducible rfl))
            try simp only [Act.put, List.setIfInBounds_toArray, List.set_cons_zero, List.set_cons_succ]
            refine wpAnyH_take (i := 5) (oi := { dst := some 99, op := Op.indexAddr 46 (Operand.tmp 97) (Operand.tmp 98), type := 0, pos := "law.go:122", after := #[{ on := 3, ground := Ground.data }, { on := 4, ground := Ground.data }, { on := 2, ground := Ground.guard }], guard := some (2, false) }) (v := ?vb15r21o5) rfl (by kernel_rfl) (by kernel_rfl) (by kernel_rfl) (fun _ _ _ h => h) (Or.inl ⟨by rfl, ?hb15r21o5⟩) hS ?_
            case hb15r21o5 => (intro wx hx; skip; go_simp; (try with_reducible rfl))
            try simp only [Act.put, List.setIfInBounds_toArray, List.set_cons_zero, List.set_cons_succ]
            refine wpAnyH_take (i := 6) (oi := { dst := some 100, op := Op.fieldAddr 48 (Operand.tmp 99) 0, type := 0, pos := "law.go:122", after := #[{ on := 5, ground := Ground.data }, { on := 2, ground := Ground.guard }], guard := some (2, false) }) (v := ?vb15r21o6) rfl (by kernel_rfl) (by kernel_rfl) (by kernel_rfl) (fun _ _ _ h => h) (Or.inl ⟨by rfl, ?hb15r21o6⟩) hS ?_
            case hb15r21o6 => (intro wx hx; skip; go_simp; (try with_reducible rfl))
            try simp only [Act.put, List.setIfInBounds_toArray, List.set_cons_zero, List.set_cons_succ]
            refine wpAnyH_take (i := 7) (oi := { dst := some 101, op := Op.load 4 (Operand.tmp 100), type := 4, pos := "law.go:122", after := #[{ on := 6, ground := Ground.data }, { on := 2, ground := Ground.guard }], guard := some (2, false) }) (v := ?vb15r21o7) rfl (by kernel_rfl) (by kernel_rfl) (by kernel_rfl) (fun _ _ _ h => h) (Or.inl ⟨by rfl, ?hb15r21o7⟩) hS ?_
            case hb15r21o7 => (intro wx hx; obtain ⟨s0, s1, s2⟩ := HK.out wx hx; go_simp; (try with_reducible rfl))
            try simp only [Act.put, List.setIfInBounds_toArray, List.set_cons_zero, List.set_cons_succ]
            refine wpAnyH_take (i := 8) (oi := { dst := some 102, op := Op.move (Operand.tmp 101), type := 4, pos := "law.go:122", after := #[{ on := 7, ground := Ground.data }, { on := 2, ground := Ground.chain }, { on := 2, ground := Ground.guard }], guard := some (2, false) }) (v := ?vb15r21o8) rfl (by kernel_rfl) (by kernel_rfl) (by kernel_rfl) (fun _ _ _ h => h) (Or.inl ⟨by rfl, ?hb15r21o8⟩) hS ?_
            case hb15r21o8 => (intro wx hx; skip; go_simp; (try with_reducible rfl))
            try simp only [Act.put, List.setIfInBounds_toArray, List.set_cons_zero, List.set_cons_succ]
            refine wpAnyH_take (i := 9) (oi := { dst := some 103, op := Op.move (Operand.tmp 9), type := 35, pos := "law.go:122", after := #[{ on := 8, ground := Ground.guard }], guard := some (8, true) }) (v := ?vb15r21o9) rfl (by kernel_rfl) (by kernel_rfl) (by kernel_rfl) (fun _ _ _ h => h) (Or.inl ⟨by rfl, ?hb15r21o9⟩) hS ?_
            case hb15r21o9 => (intro wx hx; skip; go_simp; (try with_reducible rfl))
            try simp only [Act.put, List.setIfInBounds_toArray, List.set_cons_zero, List.set_cons_succ]
            refine wpAnyH_take (i := 10) (oi := { dst := some 104, op := Op.move (Operand.tmp 0), type := 46, pos := "law.go:122", after := #[{ on := 8, ground := Ground.guard }], guard := some (8, true) }) (v := ?vb15r21o10) rfl (by kernel_rfl) (by kernel_rfl) (by kernel_rfl) (fun _ _ _ h => h) (Or.inl ⟨by rfl, ?hb15r21o10⟩) hS ?_
            case hb15r21o10 => (intro wx hx; skip; go_simp; (try with_reducible rfl))
            try simp only [Act.put, List.setIfInBounds_toArray, List.set_cons_zero, List.set_cons_succ]
            refine wpAnyH_take (i := 11) (oi := { dst := some 105, op := Op.move (Operand.tmp 10), type := 3, pos := "law.go:122", after := #[{ on := 8, ground := Ground.guard }], guard := some (8, true) }) (v := ?vb15r21o11) rfl (by kernel_rfl) (by kernel_rfl) (by kernel_rfl) (fun _ _ _ h => h) (Or.inl ⟨by rfl, ?hb15r21o11⟩) hS ?_
            case hb15r21o11 => (intro wx hx; skip; go_simp; (try with_reducible rfl))
            try simp only [Act.put, List.setIfInBounds_toArray, List.set_cons_zero, List.set_cons_succ]
            refine wpAnyH_take (i := 12) (oi := { dst := some 106, op := Op.indexAddr 46 (Operand.tmp 104) (Operand.tmp 105), type := 0, pos := "law.go:122", after := #[{ on := 10, ground := Ground.data }, { on := 11, ground := Ground.data }, { on := 8, ground := Ground.guard }], guard := some (8, true) }) (v := ?vb15r21o12) rfl (by kernel_rfl) (by kernel_rfl) (by kernel_rfl) (fun _ _ _ h => h) (Or.inl ⟨by rfl, ?hb15r21o12⟩) hS ?_
            case hb15r21o12 => (intro wx hx; skip; go_simp; (try with_reducible rfl))
            try simp only [Act.put, List.setIfInBounds_toArray, List.set_cons_zero, List.set_cons_succ]
            refine wpAnyH_take (i := 13) (oi := { dst := some 107, op := Op.fieldAddr 48 (Operand.tmp 106) 2, type := 0, pos := "law.go:122", after := #[{ on := 12, ground := Ground.data }, { on := 8, ground := Ground.guard }], guard := some (8, true) }) (v := ?vb15r21o13) rfl (by kernel_rfl) (by kernel_rfl) (by kernel_rfl) (fun _ _ _ h => h) (Or.inl ⟨by rfl, ?hb15r21o13⟩) hS ?_
            case hb15r21o13 => (intro wx hx; skip; go_simp; (try with_reducible rfl))
            try simp only [Act.put, List.setIfInBounds_toArray, List.set_cons_zero, List.set_cons_succ]
            refine wpAnyH_take (i := 14) (oi := { dst := some 108, op := Op.load 9 (Operand.tmp 107), type := 9, pos := "law.go:122", after := #[{ on := 13, ground := Ground.data }, { on := 8, ground := Ground.guard }], guard := some (8, true) }) (v := ?vb15r21o14) rfl (by kernel_rfl) (by kernel_rfl) (by kernel_rfl) (fun _ _ _ h => h) (Or.inl ⟨by rfl, ?hb15r21o14⟩) hS ?_
            case hb15r21o14 => (intro wx hx; obtain ⟨s0, s1, s2⟩ := HK.out wx hx; go_simp; (try with_reducible rfl))
            try simp only [Act.put, List.setIfInBounds_toArray, List.set_cons_zero, List.set_cons_succ]
            refine wpAnyH_take (i := 15) (oi := { dst := some 109, op := Op.call { callee := Callee.builtin Builtin.len, args := #[Operand.tmp 108], argTypes := #[9] }, type := 3, pos := "law.go:122", after := #[{ on := 14, ground := Ground.data }, { on := 8, ground := Ground.guard }], guard := some (8, true) }) (v := ?vb15r21o15) rfl (by kernel_rfl) (by kernel_rfl) (by kernel_rfl) (fun _ _ _ h => h) (Or.inl ⟨by rfl, ?hb15r21o15⟩) hS ?_
            case hb15r21o15 => (intro wx hx; skip; go_simp; (try with_reducible rfl))
            try simp only [Act.put, List.setIfInBounds_toArray, List.set_cons_zero, List.set_cons_succ]
            refine wpAnyH_take (i := 17) (oi := { dst := some 111, op := Op.move (Operand.tmp 0), type := 46, pos := "law.go:122", after := #[{ on := 8, ground := Ground.guard }], guard := some (8, true) }) (v := ?vb15r21o17) rfl (by kernel_rfl) (by kernel_rfl) (by kernel_rfl) (fun _ _ _ h => h) (Or.inl ⟨by rfl, ?hb15r21o17⟩) hS ?_
            case hb15r21o17 => (intro wx hx; skip; go_simp; (try with_reducible rfl))
            try simp only [Act.put, List.setIfInBounds_toArray, List.set_cons_zero, List.set_cons_succ]
            refine wpAnyH_take (i := 18) (oi := { dst := some 112, op := Op.move (Operand.tmp 10), type := 3, pos := "law.go:122", after := #[{ on := 8, ground := Ground.guard }], guard := some (8, true) }) (v := ?vb15r21o18) rfl (by kernel_rfl) (by kernel_rfl) (by kernel_rfl) (fun _ _ _ h => h) (Or.inl ⟨by rfl, ?hb15r21o18⟩) hS ?_
            case hb15r21o18 => (intro wx hx; skip; go_simp; (try with_reducible rfl))
            try simp only [Act.put, List.setIfInBounds_toArray, List.set_cons_zero, List.set_cons_succ]
            refine wpAnyH_take (i := 19) (oi := { dst := some 113, op := Op.indexAddr 46 (Operand.tmp 111) (Operand.tmp 112), type := 0, pos := "law.go:122", after := #[{ on := 17, ground := Ground.data }, { on := 18, ground := Ground.data }, { on := 8, ground := Ground.guard }], guard := some (8, true) }) (v := ?vb15r21o19) rfl (by kernel_rfl) (by kernel_rfl) (by kernel_rfl) (fun _ _ _ h => h) (Or.inl ⟨by rfl, ?hb15r21o19⟩) hS ?_
            case hb15r21o19 => (intro wx hx; skip; go_simp; (try with_reducible rfl))
            try simp only [Act.put, List.setIfInBounds_toArray, List.set_cons_zero, List.set_cons_succ]
            refine wpAnyH_take (i := 20) (oi := { dst := some 114, op := Op.fieldAddr 48 (Operand.tmp 113) 2, type := 0, pos := "law.go:122", after := #[{ on := 19, ground := Ground.data }, { on := 8, ground := Ground.guard }], guard := some (8, true) }) (v := ?vb15r21o20) rfl (by kernel_rfl) (by kernel_rfl) (by kernel_rfl) (fun _ _ _ h => h) (Or.inl ⟨by rfl, ?hb15r21o20⟩) hS ?_
            case hb15r21o20 => (intro wx hx; skip; go_simp; (try with_reducible rfl))
            try simp only [Act.put, List.setIfInBounds_toArray, List.set_cons_zero, List.set_cons_succ]
            refine wpAnyH_take (i := 21) (oi := { dst := some 115, op := Op.load 9 (Operand.tmp 114), type := 9, pos := "law.go:122", after := #[{ on := 20, ground := Ground.data }, { on := 8, ground := Ground.guard }], guard := some (8, true) }) (v := ?vb15r21o21) rfl (by kernel_rfl) (by kernel_rfl) (by kernel_rfl) (fun _ _ _ h => h) (Or.inl ⟨by rfl, ?hb15r21o21⟩) hS ?_
            case hb15r21o21 => (intro wx hx; obtain ⟨s0, s1, s2⟩ := HK.out wx hx; go_simp; (try with_reducible rfl))
            try simp only [Act.put, List.setIfInBounds_toArray, List.set_cons_zero, List.set_cons_succ]
            refine wpAnyH_ready (rs := [16]) (by kernel_rfl) (by simp) ?_
            refine AllReadyH.cons (o := { dst := some 110, op := Op.call { callee := Callee.value (Operand.func 25), args := #[Operand.tmp 103, Operand.tmp 109], argTypes := #[35, 3] }, type := 9, pos := "law.go:122", after := #[{ on := 9, ground := Ground.data }, { on := 15, ground := Ground.data }, { on := 8, ground := Ground.chain }, { on := 8, ground := Ground.guard }], guard := some (8, true) }) rfl (fun K hK => ?_) AllReadyH.nil
            go_simp
            refine (HRd.out _ hTA).mono ?_
            rintro e wB ⟨rfl, hTB, hgB⟩
            have hgwB := grown_new hgwA hgB (by intro k e; cases e; exact hBg)
            refine hK.out _ _ ?hsb15r21o16 (fun hS => ?_)
            case hsb15r21o16 => (assumption)
            clear hK K
            try simp only [Act.put, List.setIfInBounds_toArray, List.set_cons_zero, List.set_cons_succ]
            refine wpAnyH_take (i := 22) (oi := { dst := some 116, op := Op.binOp BinOp.neq 9 (Operand.tmp 110) (Operand.tmp 115) 9, type := 4, pos := "law.go:122", after := #[{ on := 16, ground := Ground.data }, { on := 21, ground := Ground.data }, { on := 8, ground := Ground.guard }], guard := some (8, true) }) (v := ?vb15r21o22) rfl (by kernel_rfl) (by kernel_rfl) (by kernel_rfl) (fun _ _ _ h => h) (Or.inl ⟨by rfl, ?hb15r21o22⟩) hS ?_
            case hb15r21o22 => (intro wx hx; skip; go_simp; (try with_reducible rfl))
            try simp only [Act.put, List.setIfInBounds_toArray, List.set_cons_zero, List.set_cons_succ]
            refine wpAnyH_take (i := 23) (oi := { dst := some 117, op := Op.pick (Operand.tmp 102) (Operand.tmp 116) (Operand.const (Value.bool false)), type := 4, pos := "law.go:122", after := #[{ on := 8, ground := Ground.data }, { on := 22, ground := Ground.data }, { on := 2, ground := Ground.guard }], guard := some (2, false) }) (v := ?vb15r21o23) rfl (by kernel_rfl) (by kernel_rfl) (by kernel_rfl) (fun _ _ _ h => h) (Or.inl ⟨by rfl, ?hb15r21o23⟩) hS ?_
            case hb15r21o23 => (intro wx hx; skip; go_simp; (try with_reducible rfl))
            try simp only [Act.put, List.setIfInBounds_toArray, List.set_cons_zero, List.set_cons_succ]
            refine wpAnyH_take (i := 24) (oi := { dst := some 118, op := Op.pick (Operand.tmp 96) (Operand.const (Value.bool true)) (Operand.tmp 117), type := 4, pos := "law.go:122", after := #[{ on := 2, ground := Ground.data }, { on := 23, ground := Ground.data }], guard := none }) (v := ?vb15r21o24) rfl (by kernel_rfl) (by kernel_rfl) (by kernel_rfl) (fun _ _ _ h => h) (Or.inl ⟨by rfl, ?hb15r21o24⟩) hS ?_
            case hb15r21o24 => (intro wx hx; skip; go_simp; (try with_reducible rfl))
            try simp only [Act.put, List.setIfInBounds_toArray, List.set_cons_zero, List.set_cons_succ]
            refine wpAnyH_take (i := 25) (oi := { dst := some 119, op := Op.move (Operand.tmp 118), type := 4, pos := "law.go:122", after := #[{ on := 24, ground := Ground.data }, { on := 16, ground := Ground.chain }], guard := none }) (v := ?vb15r21o25) rfl (by kernel_rfl) (by kernel_rfl) (by kernel_rfl) (fun _ _ _ h => h) (Or.inl ⟨by rfl, ?hb15r21o25⟩) hS ?_
            case hb15r21o25 => (intro wx hx; skip; go_simp; (try with_reducible rfl))
            try simp only [Act.put, List.setIfInBounds_toArray, List.set_cons_zero, List.set_cons_succ]
            refine wpAnyH_take (i := 26) (oi := { dst := some 120, op := Op.move (Operand.tmp 0), type := 46, pos := "law.go:122", after := #[{ on := 25, ground := Ground.guard }], guard := some (25, false) }) (v := ?vb15r21o26) rfl (by kernel_rfl) (by kernel_rfl) (by kernel_rfl) (fun _ _ _ h => h) (Or.inl ⟨by rfl, ?hb15r21o26⟩) hS ?_
            case hb15r21o26 => (intro wx hx; skip; go_simp; (try with_reducible rfl))
            try simp only [Act.put, List.setIfInBounds_toArray, List.set_cons_zero, List.set_cons_succ]
            refine wpAnyH_take (i := 27) (oi := { dst := some 121, op := Op.move (Operand.tmp 10), type := 3, pos := "law.go:122", after := #[{ on := 25, ground := Ground.guard }], guard := some (25, false) }) (v := ?vb15r21o27) rfl (by kernel_rfl) (by kernel_rfl) (by kernel_rfl) (fun _ _ _ h => h) (Or.inl ⟨by rfl, ?hb15r21o27⟩) hS ?_
            case hb15r21o27 => (intro wx hx; skip; go_simp; (try with_reducible rfl))
            try simp only [Act.put, List.setIfInBounds_toArray, List.set_cons_zero, List.set_cons_succ]
            refine wpAnyH_take (i := 28) (oi := { dst := some 122, op := Op.indexAddr 46 (Operand.tmp 120) (Operand.tmp 121), type := 0, pos := "law.go:122", after := #[{ on := 26, ground := Ground.data }, { on := 27, ground := Ground.data }, { on := 25, ground := Ground.guard }], guard := some (25, false) }) (v := ?vb15r21o28) rfl (by kernel_rfl) (by kernel_rfl) (by kernel_rfl) (fun _ _ _ h => h) (Or.inl ⟨by rfl, ?hb15r21o28⟩) hS ?_
            case hb15r21o28 => (intro wx hx; skip; go_simp; (try with_reducible rfl))
            try simp only [Act.put, List.setIfInBounds_toArray, List.set_cons_zero, List.set_cons_succ]
            refine wpAnyH_take (i := 29) (oi := { dst := some 123, op := Op.fieldAddr 48 (Operand.tmp 122) 0, type := 0, pos := "law.go:122", after := #[{ on := 28, ground := Ground.data }, { on := 25, ground := Ground.guard }], guard := some (25, false) }) (v := ?vb15r21o29) rfl (by kernel_rfl) (by kernel_rfl) (by kernel_rfl) (fun _ _ _ h => h) (Or.inl ⟨by rfl, ?hb15r21o29⟩) hS ?_
            case hb15r21o29 => (intro wx hx; skip; go_simp; (try with_reducible rfl))
            try simp only [Act.put, List.setIfInBounds_toArray, List.set_cons_zero, List.set_cons_succ]
            refine wpAnyH_take (i := 30) (oi := { dst := some 124, op := Op.load 4 (Operand.tmp 123), type := 4, pos := "law.go:122", after := #[{ on := 29, ground := Ground.data }, { on := 25, ground := Ground.guard }], guard := some (25, false) }) (v := ?vb15r21o30) rfl (by kernel_rfl) (by kernel_rfl) (by kernel_rfl) (fun _ _ _ h => h) (Or.inl ⟨by rfl, ?hb15r21o30⟩) hS ?_
            case hb15r21o30 => (intro wx hx; obtain ⟨s0, s1, s2⟩ := HK.out wx hx; go_simp; (try with_reducible rfl))
            try simp only [Act.put, List.setIfInBounds_toArray, List.set_cons_zero, List.set_cons_succ]
            refine wpAnyH_take (i := 31) (oi := { dst := some 125, op := Op.unOp UnOp.not 4 (Operand.tmp 124), type := 4, pos := "law.go:122", after := #[{ on := 30, ground := Ground.data }, { on := 25, ground := Ground.guard }], guard := some (25, false) }) (v := ?vb15r21o31) rfl (by kernel_rfl) (by kernel_rfl) (by kernel_rfl) (fun _ _ _ h => h) (Or.inl ⟨by rfl, ?hb15r21o31⟩) hS ?_
            case hb15r21o31 => (intro wx hx; skip; go_simp; (try with_reducible rfl))
            try simp only [Act.put, List.setIfInBounds_toArray, List.set_cons_zero, List.set_cons_succ]
            refine wpAnyH_take (i := 32) (oi := { dst := some 126, op := Op.move (Operand.tmp 125), type := 4, pos := "law.go:122", after := #[{ on := 31, ground := Ground.data }, { on := 25, ground := Ground.chain }, { on := 25, ground := Ground.guard }], guard := some (25, false) }) (v := ?vb15r21o32) rfl (by kernel_rfl) (by kernel_rfl) (by kernel_rfl) (fun _ _ _ h => h) (Or.inl ⟨by rfl, ?hb15r21o32⟩) hS ?_
            case hb15r21o32 => (intro wx hx; skip; go_simp; (try with_reducible rfl))
            try simp only [Act.put, List.setIfInBounds_toArray, List.set_cons_zero, List.set_cons_succ]
            refine wpAnyH_take (i := 33) (oi := { dst := some 127, op := Op.move (Operand.tmp 9), type := 35, pos := "law.go:122", after := #[{ on := 32, ground := Ground.guard }], guard := some (32, true) }) (v := undef) rfl (by kernel_rfl) (by kernel_rfl) (by kernel_rfl) (fun _ _ _ h => h) (Or.inr ⟨by rfl, rfl⟩) hS ?_
            try simp only [Act.put, List.setIfInBounds_toArray, List.set_cons_zero, List.set_cons_succ]
            refine wpAnyH_take (i := 34) (oi := { dst := some 128, op := Op.call { callee := Callee.value (Operand.func 23), args := #[Operand.tmp 127], argTypes := #[35] }, type := 23, pos := "law.go:122", after := #[{ on := 33, ground := Ground.data }, { on := 32, ground := Ground.chain }, { on := 32, ground := Ground.guard }], guard := some (32, true) }) (v := undef) rfl (by kernel_rfl) (by kernel_rfl) (by kernel_rfl) (fun _ _ _ h => h) (Or.inr ⟨by rfl, rfl⟩) hS ?_
            try simp only [Act.put, List.setIfInBounds_toArray, List.set_cons_zero, List.set_cons_succ]
            refine wpAnyH_take (i := 35) (oi := { dst := some 129, op := Op.move (Operand.tmp 0), type := 46, pos := "law.go:122", after := #[{ on := 32, ground := Ground.guard }], guard := some (32, true) }) (v := undef) rfl (by kernel_rfl) (by kernel_rfl) (by kernel_rfl) (fun _ _ _ h => h) (Or.inr ⟨by rfl, rfl⟩) hS ?_
            try simp only [Act.put, List.setIfInBounds_toArray, List.set_cons_zero, List.set_cons_succ]
            refine wpAnyH_take (i := 36) (oi := { dst := some 130, op := Op.move (Operand.tmp 10), type := 3, pos := "law.go:122", after := #[{ on := 32, ground := Ground.guard }], guard := some (32, true) }) (v := undef) rfl (by kernel_rfl) (by kernel_rfl) (by kernel_rfl) (fun _ _ _ h => h) (Or.inr ⟨by rfl, rfl⟩) hS ?_
            try simp only [Act.put, List.setIfInBounds_toArray, List.set_cons_zero, List.set_cons_succ]
            refine wpAnyH_take (i := 37) (oi := { dst := some 131, op := Op.indexAddr 46 (Operand.tmp 129) (Operand.tmp 130), type := 0, pos := "law.go:122", after := #[{ on := 35, ground := Ground.data }, { on := 36, ground := Ground.data }, { on := 32, ground := Ground.guard }], guard := some (32, true) }) (v := undef) rfl (by kernel_rfl) (by kernel_rfl) (by kernel_rfl) (fun _ _ _ h => h) (Or.inr ⟨by rfl, rfl⟩) hS ?_
            try simp only [Act.put, List.setIfInBounds_toArray, List.set_cons_zero, List.set_cons_succ]
            refine wpAnyH_take (i := 38) (oi := { dst := some 132, op := Op.fieldAddr 48 (Operand.tmp 131) 1, type := 0, pos := "law.go:122", after := #[{ on := 37, ground := Ground.data }, { on := 32, ground := Ground.guard }], guard := some (32, true) }) (v := undef) rfl (by kernel_rfl) (by kernel_rfl) (by kernel_rfl) (fun _ _ _ h => h) (Or.inr ⟨by rfl, rfl⟩) hS ?_
            try simp only [Act.put, List.setIfInBounds_toArray, List.set_cons_zero, List.set_cons_succ]
            refine wpAnyH_take (i := 39) (oi := { dst := some 133, op := Op.load 23 (Operand.tmp 132), type := 23, pos := "law.go:122", after := #[{ on := 38, ground := Ground.data }, { on := 32, ground := Ground.guard }], guard := some (32, true) }) (v := undef) rfl (by kernel_rfl) (by kernel_rfl) (by kernel_rfl) (fun _ _ _ h => h) (Or.inr ⟨by rfl, rfl⟩) hS ?_
            try simp only [Act.put, List.setIfInBounds_toArray, List.set_cons_zero, List.set_cons_succ]
            refine wpAnyH_take (i := 40) (oi := { dst := some 134, op := Op.binOp BinOp.neq 23 (Operand.tmp 128) (Operand.tmp 133) 23, type := 4, pos := "law.go:122", after := #[{ on := 34, ground := Ground.data }, { on := 39, ground := Ground.data }, { on := 32, ground := Ground.guard }], guard := some (32, true) }) (v := undef) rfl (by kernel_rfl) (by kernel_rfl) (by kernel_rfl) (fun _ _ _ h => h) (Or.inr ⟨by rfl, rfl⟩) hS ?_
            try simp only [Act.put, List.setIfInBounds_toArray, List.set_cons_zero, List.set_cons_succ]
            refine wpAnyH_take (i := 41) (oi := { dst := some 135, op := Op.pick (Operand.tmp 126) (Operand.tmp 134) (Operand.const (Value.bool false)), type := 4, pos := "law.go:122", after := #[{ on := 32, ground := Ground.data }, { on := 40, ground := Ground.data }, { on := 25, ground := Ground.guard }], guard := some (25, false) }) (v := ?vb15r21o41) rfl (by kernel_rfl) (by kernel_rfl) (by kernel_rfl) (fun _ _ _ h => h) (Or.inl ⟨by rfl, ?hb15r21o41⟩) hS ?_
            case hb15r21o41 => (intro wx hx; skip; go_simp; (try with_reducible rfl))
            try simp only [Act.put, List.setIfInBounds_toArray, List.set_cons_zero, List.set_cons_succ]
            refine wpAnyH_take (i := 42) (oi := { dst := some 136, op := Op.pick (Operand.tmp 119) (Operand.const (Value.bool true)) (Operand.tmp 135), type := 4, pos := "law.go:122", after := #[{ on := 25, ground := Ground.data }, { on := 41, ground := Ground.data }], guard := none }) (v := ?vb15r21o42) rfl (by kernel_rfl) (by kernel_rfl) (by kernel_rfl) (fun _ _ _ h => h) (Or.inl ⟨by rfl, ?hb15r21o42⟩) hS ?_
            case hb15r21o42 => (intro wx hx; skip; go_simp; (try with_reducible rfl))
            try simp only [Act.put, List.setIfInBounds_toArray, List.set_cons_zero, List.set_cons_succ]
            refine wpAnyH_take (i := 43) (oi := { dst := some 137, op := Op.move (Operand.tmp 136), type := 4, pos := "law.go:122", after := #[{ on := 42, ground := Ground.data }, { on := 34, ground := Ground.chain }], guard := none }) (v := ?vb15r21o43) rfl (by kernel_rfl) (by kernel_rfl) (by kernel_rfl) (fun _ _ _ h => h) (Or.inl ⟨by rfl, ?hb15r21o43⟩) hS ?_
            case hb15r21o43 => (intro wx hx; skip; go_simp; (try with_reducible rfl))
            try simp only [Act.put, List.setIfInBounds_toArray, List.set_cons_zero, List.set_cons_succ]
            refine wpAnyH_take (i := 44) (oi := { dst := some 138, op := Op.move (Operand.tmp 9), type := 35, pos := "law.go:122", after := #[{ on := 43, ground := Ground.guard }], guard := some (43, false) }) (v := ?vb15r21o44) rfl (by kernel_rfl) (by kernel_rfl) (by kernel_rfl) (fun _ _ _ h => h) (Or.inl ⟨by rfl, ?hb15r21o44⟩) hS ?_
            case hb15r21o44 => (intro wx hx; skip; go_simp; (try with_reducible rfl))
            try simp only [Act.put, List.setIfInBounds_toArray, List.set_cons_zero, List.set_cons_succ]
            refine wpAnyH_ready (rs := [45]) (by kernel_rfl) (by simp) ?_
            refine AllReadyH.cons (o := { dst := some 139, op := Op.call { callee := Callee.value (Operand.func 27), args := #[Operand.tmp 138], argTypes := #[35] }, type := 4, pos := "law.go:122", after := #[{ on := 44, ground := Ground.data }, { on := 43, ground := Ground.chain }, { on := 43, ground := Ground.guard }], guard := some (43, false) }) rfl (fun K hK => ?_) AllReadyH.nil
            go_simp
            refine (HTo.out _ hTB).mono ?_
            rintro e wC ⟨rfl, hTC, hgC⟩
            have hgwC := grown_new hgwB hgC (by intro k e; cases e; exact hBg)
            refine hK.out _ _ ?hsb15r21o45 (fun hS => ?_)
            case hsb15r21o45 => (assumption)
            clear hK K
            try simp only [Act.put, List.setIfInBounds_toArray, List.set_cons_zero, List.set_cons_succ]
            refine wpAnyH_take (i := 46) (oi := { dst := some 140, op := Op.pick (Operand.tmp 137) (Operand.const (Value.bool true)) (Operand.tmp 139), type := 4, pos := "law.go:122", after := #[{ on := 43, ground := Ground.data }, { on := 45, ground := Ground.data }], guard := none }) (v := ?vb15r21o46) rfl (by kernel_rfl) (by kernel_rfl) (by kernel_rfl) (fun _ _ _ h => h) (Or.inl ⟨by rfl, ?hb15r21o46⟩) hS ?_
            case hb15r21o46 => (intro wx hx; skip; go_simp; (try with_reducible rfl))
            try simp only [Act.put, List.setIfInBounds_toArray, List.set_cons_zero, List.set_cons_succ]
            refine wpAnyH_done (by kernel_rfl) ?_ _
            go_wp2
            go_roundw
            case rel => exact ⟨j + 1, by omega, by go_num, hTC, hgwC⟩
            case measure => simp [intOf]; omega
          | false =>
            have HRd : Hid (∀ wx, TapeIs wx B g d (encAll L) (endOf L j) false → Calls Try.prog 23 #[.pointer (some ⟨g, 0, none⟩)] wx (StepIs (.int .u64 (x.n : Int)) wx B g d (encAll L) (endOf L (j + 1)) false)) := by
              intro wx hx1
              have hrd := Number_step_any B g d (encAll L) (endOf L j) false wx hx1
              have hm := read_number L j x hx his hxn (encAll L).length (encAll_le L (j + 1))
              rw [List.take_length] at hm
              rw [show endOf L j = (encAll (L.take j)).length from rfl, hm] at hrd
              exact hrd
            have HIS := Lib.hid his
            rw [his] at c0
            clear his
            go_wp2_with fail
            have hTd := hT.keep (row := none) (grown_drew (World.grownBy.refl wr none)) (by simp) (by simp)
            have hgd := grown_drew hg
            clear hT hg
            have HK := Lib.hid (fun wx => item_keep (w' := wx) HI.out hx HIS.out)
            have hBg := HgW.out
            have hq2 : ((x.n : Int) != (x.n : Int)) = false := by simp
            refine wp_region_held_drew (S := fun w' => w.grownBy w' none) (by kernel_rfl) (hgd) (fun hS => ?_)
            refine wpAnyH_take (i := 0) (oi := { dst := some 94, op := Op.move (Operand.tmp 9), type := 35, pos := "law.go:122", after := #[], guard := none }) (v := ?vb05r21o0) rfl (by kernel_rfl) (by kernel_rfl) (by kernel_rfl) (fun _ _ _ h => h) (Or.inl ⟨by rfl, ?hb05r21o0⟩) hS ?_
            case hb05r21o0 => (intro wx hx; skip; go_simp; (try with_reducible rfl))
            try simp only [Act.put, List.setIfInBounds_toArray, List.set_cons_zero, List.set_cons_succ]
            refine wpAnyH_ready (rs := [1]) (by kernel_rfl) (by simp) ?_
            refine AllReadyH.cons (o := { dst := some 95, op := Op.call { callee := Callee.value (Operand.func 28), args := #[Operand.tmp 94], argTypes := #[35] }, type := 4, pos := "law.go:122", after := #[{ on := 0, ground := Ground.data }], guard := none }) rfl (fun K hK => ?_) AllReadyH.nil
            go_simp
            refine (HEn.out _ hTd).mono ?_
            rintro e wA ⟨rfl, hTA, hgA⟩
            have hgwA := grown_new hgd hgA (by intro k e; cases e; exact hBg)
            refine hK.out _ _ ?hsb05r21o1 (fun hS => ?_)
            case hsb05r21o1 => (assumption)
            clear hK K
            try simp only [Act.put, List.setIfInBounds_toArray, List.set_cons_zero, List.set_cons_succ]
            refine wpAnyH_take (i := 2) (oi := { dst := some 96, op := Op.move (Operand.tmp 95), type := 4, pos := "law.go:122", after := #[{ on := 1, ground := Ground.data }, { on := 1, ground := Ground.chain }], guard := none }) (v := ?vb05r21o2) rfl (by kernel_rfl) (by kernel_rfl) (by kernel_rfl) (fun _ _ _ h => h) (Or.inl ⟨by rfl, ?hb05r21o2⟩) hS ?_
            case hb05r21o2 => (intro wx hx; skip; go_simp; (try with_reducible rfl))
            try simp only [Act.put, List.setIfInBounds_toArray, List.set_cons_zero, List.set_cons_succ]
            refine wpAnyH_take (i := 3) (oi := { dst := some 97, op := Op.move (Operand.tmp 0), type := 46, pos := "law.go:122", after := #[{ on := 2, ground := Ground.guard }], guard := some (2, false) }) (v := ?vb05r21o3) rfl (by kernel_rfl) (by kernel_rfl) (by kernel_rfl) (fun _ _ _ h => h) (Or.inl ⟨by rfl, ?hb05r21o3⟩) hS ?_
            case hb05r21o3 => (intro wx hx; skip; go_simp; (try with_reducible rfl))
            try simp only [Act.put, List.setIfInBounds_toArray, List.set_cons_zero, List.set_cons_succ]
            refine wpAnyH_take (i := 4) (oi := { dst := some 98, op := Op.move (Operand.tmp 10), type := 3, pos := "law.go:122", after := #[{ on := 2, ground := Ground.guard }], guard := some (2, false) }) (v := ?vb05r21o4) rfl (by kernel_rfl) (by kernel_rfl) (by kernel_rfl) (fun _ _ _ h => h) (Or.inl ⟨by rfl, ?hb05r21o4⟩) hS ?_
            case hb05r21o4 => (intro wx hx; skip; go_simp; (try with_reducible rfl))
            try simp only [Act.put, List.setIfInBounds_toArray, List.set_cons_zero, List.set_cons_succ]
            refine wpAnyH_take (i := 5) (oi := { dst := some 99, op := Op.indexAddr 46 (Operand.tmp 97) (Operand.tmp 98), type := 0, pos := "law.go:122", after := #[{ on := 3, ground := Ground.data }, { on := 4, ground := Ground.data }, { on := 2, ground := Ground.guard }], guard := some (2, false) }) (v := ?vb05r21o5) rfl (by kernel_rfl) (by kernel_rfl) (by kernel_rfl) (fun _ _ _ h => h) (Or.inl ⟨by rfl, ?hb05r21o5⟩) hS ?_
            case hb05r21o5 => (intro wx hx; skip; go_simp; (try with_reducible rfl))
            try simp only [Act.put, List.setIfInBounds_toArray, List.set_cons_zero, List.set_cons_succ]
            refine wpAnyH_take (i := 6) (oi := { dst := some 100, op := Op.fieldAddr 48 (Operand.tmp 99) 0, type := 0, pos := "law.go:122", after := #[{ on := 5, ground := Ground.data }, { on := 2, ground := Ground.guard }], guard := some (2, false) }) (v := ?vb05r21o6) rfl (by kernel_rfl) (by kernel_rfl) (by kernel_rfl) (fun _ _ _ h => h) (Or.inl ⟨by rfl, ?hb05r21o6⟩) hS ?_
            case hb05r21o6 => (intro wx hx; skip; go_simp; (try with_reducible rfl))
            try simp only [Act.put, List.setIfInBounds_toArray, List.set_cons_zero, List.set_cons_succ]
            refine wpAnyH_take (i := 7) (oi := { dst := some 101, op := Op.load 4 (Operand.tmp 100), type := 4, pos := "law.go:122", after := #[{ on := 6, ground := Ground.data }, { on := 2, ground := Ground.guard }], guard := some (2, false) }) (v := ?vb05r21o7) rfl (by kernel_rfl) (by kernel_rfl) (by kernel_rfl) (fun _ _ _ h => h) (Or.inl ⟨by rfl, ?hb05r21o7⟩) hS ?_
            case hb05r21o7 => (intro wx hx; obtain ⟨s0, s1, s2⟩ := HK.out wx hx; go_simp; (try with_reducible rfl))
            try simp only [Act.put, List.setIfInBounds_toArray, List.set_cons_zero, List.set_cons_succ]
            refine wpAnyH_take (i := 8) (oi := { dst := some 102, op := Op.move (Operand.tmp 101), type := 4, pos := "law.go:122", after := #[{ on := 7, ground := Ground.data }, { on := 2, ground := Ground.chain }, { on := 2, ground := Ground.guard }], guard := some (2, false) }) (v := ?vb05r21o8) rfl (by kernel_rfl) (by kernel_rfl) (by kernel_rfl) (fun _ _ _ h => h) (Or.inl ⟨by rfl, ?hb05r21o8⟩) hS ?_
            case hb05r21o8 => (intro wx hx; skip; go_simp; (try with_reducible rfl))
            try simp only [Act.put, List.setIfInBounds_toArray, List.set_cons_zero, List.set_cons_succ]
            refine wpAnyH_take (i := 9) (oi := { dst := some 103, op := Op.move (Operand.tmp 9), type := 35, pos := "law.go:122", after := #[{ on := 8, ground := Ground.guard }], guard := some (8, true) }) (v := undef) rfl (by kernel_rfl) (by kernel_rfl) (by kernel_rfl) (fun _ _ _ h => h) (Or.inr ⟨by rfl, rfl⟩) hS ?_
            try simp only [Act.put, List.setIfInBounds_toArray, List.set_cons_zero, List.set_cons_succ]
            refine wpAnyH_take (i := 10) (oi := { dst := some 104, op := Op.move (Operand.tmp 0), type := 46, pos := "law.go:122", after := #[{ on := 8, ground := Ground.guard }], guard := some (8, true) }) (v := undef) rfl (by kernel_rfl) (by kernel_rfl) (by kernel_rfl) (fun _ _ _ h => h) (Or.inr ⟨by rfl, rfl⟩) hS ?_
            try simp only [Act.put, List.setIfInBounds_toArray, List.set_cons_zero, List.set_cons_succ]
            refine wpAnyH_take (i := 11) (oi := { dst := some 105, op := Op.move (Operand.tmp 10), type := 3, pos := "law.go:122", after := #[{ on := 8, ground := Ground.guard }], guard := some (8, true) }) (v := undef) rfl (by kernel_rfl) (by kernel_rfl) (by kernel_rfl) (fun _ _ _ h => h) (Or.inr ⟨by rfl, rfl⟩) hS ?_
            try simp only [Act.put, List.setIfInBounds_toArray, List.set_cons_zero, List.set_cons_succ]
            refine wpAnyH_take (i := 12) (oi := { dst := some 106, op := Op.indexAddr 46 (Operand.tmp 104) (Operand.tmp 105), type := 0, pos := "law.go:122", after := #[{ on := 10, ground := Ground.data }, { on := 11, ground := Ground.data }, { on := 8, ground := Ground.guard }], guard := some (8, true) }) (v := undef) rfl (by kernel_rfl) (by kernel_rfl) (by kernel_rfl) (fun _ _ _ h => h) (Or.inr ⟨by rfl, rfl⟩) hS ?_
            try simp only [Act.put, List.setIfInBounds_toArray, List.set_cons_zero, List.set_cons_succ]
            refine wpAnyH_take (i := 13) (oi := { dst := some 107, op := Op.fieldAddr 48 (Operand.tmp 106) 2, type := 0, pos := "law.go:122", after := #[{ on := 12, ground := Ground.data }, { on := 8, ground := Ground.guard }], guard := some (8, true) }) (v := undef) rfl (by kernel_rfl) (by kernel_rfl) (by kernel_rfl) (fun _ _ _ h => h) (Or.inr ⟨by rfl, rfl⟩) hS ?_
            try simp only [Act.put, List.setIfInBounds_toArray, List.set_cons_zero, List.set_cons_succ]
            refine wpAnyH_take (i := 14) (oi := { dst := some 108, op := Op.load 9 (Operand.tmp 107), type := 9, pos := "law.go:122", after := #[{ on := 13, ground := Ground.data }, { on := 8, ground := Ground.guard }], guard := some (8, true) }) (v := undef) rfl (by kernel_rfl) (by kernel_rfl) (by kernel_rfl) (fun _ _ _ h => h) (Or.inr ⟨by rfl, rfl⟩) hS ?_
            try simp only [Act.put, List.setIfInBounds_toArray, List.set_cons_zero, List.set_cons_succ]
            refine wpAnyH_take (i := 15) (oi := { dst := some 109, op := Op.call { callee := Callee.builtin Builtin.len, args := #[Operand.tmp 108], argTypes := #[9] }, type := 3, pos := "law.go:122", after := #[{ on := 14, ground := Ground.data }, { on := 8, ground := Ground.guard }], guard := some (8, true) }) (v := undef) rfl (by kernel_rfl) (by kernel_rfl) (by kernel_rfl) (fun _ _ _ h => h) (Or.inr ⟨by rfl, rfl⟩) hS ?_
            try simp only [Act.put, List.setIfInBounds_toArray, List.set_cons_zero, List.set_cons_succ]
            refine wpAnyH_take (i := 16) (oi := { dst := some 110, op := Op.call { callee := Callee.value (Operand.func 25), args := #[Operand.tmp 103, Operand.tmp 109], argTypes := #[35, 3] }, type := 9, pos := "law.go:122", after := #[{ on := 9, ground := Ground.data }, { on := 15, ground := Ground.data }, { on := 8, ground := Ground.chain }, { on := 8, ground := Ground.guard }], guard := some (8, true) }) (v := undef) rfl (by kernel_rfl) (by kernel_rfl) (by kernel_rfl) (fun _ _ _ h => h) (Or.inr ⟨by rfl, rfl⟩) hS ?_
            try simp only [Act.put, List.setIfInBounds_toArray, List.set_cons_zero, List.set_cons_succ]
            refine wpAnyH_take (i := 17) (oi := { dst := some 111, op := Op.move (Operand.tmp 0), type := 46, pos := "law.go:122", after := #[{ on := 8, ground := Ground.guard }], guard := some (8, true) }) (v := undef) rfl (by kernel_rfl) (by kernel_rfl) (by kernel_rfl) (fun _ _ _ h => h) (Or.inr ⟨by rfl, rfl⟩) hS ?_
            try simp only [Act.put, List.setIfInBounds_toArray, List.set_cons_zero, List.set_cons_succ]
            refine wpAnyH_take (i := 18) (oi := { dst := some 112, op := Op.move (Operand.tmp 10), type := 3, pos := "law.go:122", after := #[{ on := 8, ground := Ground.guard }], guard := some (8, true) }) (v := undef) rfl (by kernel_rfl) (by kernel_rfl) (by kernel_rfl) (fun _ _ _ h => h) (Or.inr ⟨by rfl, rfl⟩) hS ?_
            try simp only [Act.put, List.setIfInBounds_toArray, List.set_cons_zero, List.set_cons_succ]
            refine wpAnyH_take (i := 19) (oi := { dst := some 113, op := Op.indexAddr 46 (Operand.tmp 111) (Operand.tmp 112), type := 0, pos := "law.go:122", after := #[{ on := 17, ground := Ground.data }, { on := 18, ground := Ground.data }, { on := 8, ground := Ground.guard }], guard := some (8, true) }) (v := undef) rfl (by kernel_rfl) (by kernel_rfl) (by kernel_rfl) (fun _ _ _ h => h) (Or.inr ⟨by rfl, rfl⟩) hS ?_
            try simp only [Act.put, List.setIfInBounds_toArray, List.set_cons_zero, List.set_cons_succ]
            refine wpAnyH_take (i := 20) (oi := { dst := some 114, op := Op.fieldAddr 48 (Operand.tmp 113) 2, type := 0, pos := "law.go:122", after := #[{ on := 19, ground := Ground.data }, { on := 8, ground := Ground.guard }], guard := some (8, true) }) (v := undef) rfl (by kernel_rfl) (by kernel_rfl) (by kernel_rfl) (fun _ _ _ h => h) (Or.inr ⟨by rfl, rfl⟩) hS ?_
            try simp only [Act.put, List.setIfInBounds_toArray, List.set_cons_zero, List.set_cons_succ]
            refine wpAnyH_take (i := 21) (oi := { dst := some 115, op := Op.load 9 (Operand.tmp 114), type := 9, pos := "law.go:122", after := #[{ on := 20, ground := Ground.data }, { on := 8, ground := Ground.guard }], guard := some (8, true) }) (v := undef) rfl (by kernel_rfl) (by kernel_rfl) (by kernel_rfl) (fun _ _ _ h => h) (Or.inr ⟨by rfl, rfl⟩) hS ?_
            try simp only [Act.put, List.setIfInBounds_toArray, List.set_cons_zero, List.set_cons_succ]
            refine wpAnyH_take (i := 22) (oi := { dst := some 116, op := Op.binOp BinOp.neq 9 (Operand.tmp 110) (Operand.tmp 115) 9, type := 4, pos := "law.go:122", after := #[{ on := 16, ground := Ground.data }, { on := 21, ground := Ground.data }, { on := 8, ground := Ground.guard }], guard := some (8, true) }) (v := undef) rfl (by kernel_rfl) (by kernel_rfl) (by kernel_rfl) (fun _ _ _ h => h) (Or.inr ⟨by rfl, rfl⟩) hS ?_
            try simp only [Act.put, List.setIfInBounds_toArray, List.set_cons_zero, List.set_cons_succ]
            refine wpAnyH_take (i := 23) (oi := { dst := some 117, op := Op.pick (Operand.tmp 102) (Operand.tmp 116) (Operand.const (Value.bool false)), type := 4, pos := "law.go:122", after := #[{ on := 8, ground := Ground.data }, { on := 22, ground := Ground.data }, { on := 2, ground := Ground.guard }], guard := some (2, false) }) (v := ?vb05r21o23) rfl (by kernel_rfl) (by kernel_rfl) (by kernel_rfl) (fun _ _ _ h => h) (Or.inl ⟨by rfl, ?hb05r21o23⟩) hS ?_
            case hb05r21o23 => (intro wx hx; skip; go_simp; (try with_reducible rfl))
            try simp only [Act.put, List.setIfInBounds_toArray, List.set_cons_zero, List.set_cons_succ]
            refine wpAnyH_take (i := 24) (oi := { dst := some 118, op := Op.pick (Operand.tmp 96) (Operand.const (Value.bool true)) (Operand.tmp 117), type := 4, pos := "law.go:122", after := #[{ on := 2, ground := Ground.data }, { on := 23, ground := Ground.data }], guard := none }) (v := ?vb05r21o24) rfl (by kernel_rfl) (by kernel_rfl) (by kernel_rfl) (fun _ _ _ h => h) (Or.inl ⟨by rfl, ?hb05r21o24⟩) hS ?_
            case hb05r21o24 => (intro wx hx; skip; go_simp; (try with_reducible rfl))
            try simp only [Act.put, List.setIfInBounds_toArray, List.set_cons_zero, List.set_cons_succ]
            refine wpAnyH_take (i := 25) (oi := { dst := some 119, op := Op.move (Operand.tmp 118), type := 4, pos := "law.go:122", after := #[{ on := 24, ground := Ground.data }, { on := 16, ground := Ground.chain }], guard := none }) (v := ?vb05r21o25) rfl (by kernel_rfl) (by kernel_rfl) (by kernel_rfl) (fun _ _ _ h => h) (Or.inl ⟨by rfl, ?hb05r21o25⟩) hS ?_
            case hb05r21o25 => (intro wx hx; skip; go_simp; (try with_reducible rfl))
            try simp only [Act.put, List.setIfInBounds_toArray, List.set_cons_zero, List.set_cons_succ]
            refine wpAnyH_take (i := 26) (oi := { dst := some 120, op := Op.move (Operand.tmp 0), type := 46, pos := "law.go:122", after := #[{ on := 25, ground := Ground.guard }], guard := some (25, false) }) (v := ?vb05r21o26) rfl (by kernel_rfl) (by kernel_rfl) (by kernel_rfl) (fun _ _ _ h => h) (Or.inl ⟨by rfl, ?hb05r21o26⟩) hS ?_
            case hb05r21o26 => (intro wx hx; skip; go_simp; (try with_reducible rfl))
            try simp only [Act.put, List.setIfInBounds_toArray, List.set_cons_zero, List.set_cons_succ]
            refine wpAnyH_take (i := 27) (oi := { dst := some 121, op := Op.move (Operand.tmp 10), type := 3, pos := "law.go:122", after := #[{ on := 25, ground := Ground.guard }], guard := some (25, false) }) (v := ?vb05r21o27) rfl (by kernel_rfl) (by kernel_rfl) (by kernel_rfl) (fun _ _ _ h => h) (Or.inl ⟨by rfl, ?hb05r21o27⟩) hS ?_
            case hb05r21o27 => (intro wx hx; skip; go_simp; (try with_reducible rfl))
            try simp only [Act.put, List.setIfInBounds_toArray, List.set_cons_zero, List.set_cons_succ]
            refine wpAnyH_take (i := 28) (oi := { dst := some 122, op := Op.indexAddr 46 (Operand.tmp 120) (Operand.tmp 121), type := 0, pos := "law.go:122", after := #[{ on := 26, ground := Ground.data }, { on := 27, ground := Ground.data }, { on := 25, ground := Ground.guard }], guard := some (25, false) }) (v := ?vb05r21o28) rfl (by kernel_rfl) (by kernel_rfl) (by kernel_rfl) (fun _ _ _ h => h) (Or.inl ⟨by rfl, ?hb05r21o28⟩) hS ?_
            case hb05r21o28 => (intro wx hx; skip; go_simp; (try with_reducible rfl))
            try simp only [Act.put, List.setIfInBounds_toArray, List.set_cons_zero, List.set_cons_succ]
            refine wpAnyH_take (i := 29) (oi := { dst := some 123, op := Op.fieldAddr 48 (Operand.tmp 122) 0, type := 0, pos := "law.go:122", after := #[{ on := 28, ground := Ground.data }, { on := 25, ground := Ground.guard }], guard := some (25, false) }) (v := ?vb05r21o29) rfl (by kernel_rfl) (by kernel_rfl) (by kernel_rfl) (fun _ _ _ h => h) (Or.inl ⟨by rfl, ?hb05r21o29⟩) hS ?_
            case hb05r21o29 => (intro wx hx; skip; go_simp; (try with_reducible rfl))
            try simp only [Act.put, List.setIfInBounds_toArray, List.set_cons_zero, List.set_cons_succ]
            refine wpAnyH_take (i := 30) (oi := { dst := some 124, op := Op.load 4 (Operand.tmp 123), type := 4, pos := "law.go:122", after := #[{ on := 29, ground := Ground.data }, { on := 25, ground := Ground.guard }], guard := some (25, false) }) (v := ?vb05r21o30) rfl (by kernel_rfl) (by kernel_rfl) (by kernel_rfl) (fun _ _ _ h => h) (Or.inl ⟨by rfl, ?hb05r21o30⟩) hS ?_
            case hb05r21o30 => (intro wx hx; obtain ⟨s0, s1, s2⟩ := HK.out wx hx; go_simp; (try with_reducible rfl))
            try simp only [Act.put, List.setIfInBounds_toArray, List.set_cons_zero, List.set_cons_succ]
            refine wpAnyH_take (i := 31) (oi := { dst := some 125, op := Op.unOp UnOp.not 4 (Operand.tmp 124), type := 4, pos := "law.go:122", after := #[{ on := 30, ground := Ground.data }, { on := 25, ground := Ground.guard }], guard := some (25, false) }) (v := ?vb05r21o31) rfl (by kernel_rfl) (by kernel_rfl) (by kernel_rfl) (fun _ _ _ h => h) (Or.inl ⟨by rfl, ?hb05r21o31⟩) hS ?_
            case hb05r21o31 => (intro wx hx; skip; go_simp; (try with_reducible rfl))
            try simp only [Act.put, List.setIfInBounds_toArray, List.set_cons_zero, List.set_cons_succ]
            refine wpAnyH_take (i := 32) (oi := { dst := some 126, op := Op.move (Operand.tmp 125), type := 4, pos := "law.go:122", after := #[{ on := 31, ground := Ground.data }, { on := 25, ground := Ground.chain }, { on := 25, ground := Ground.guard }], guard := some (25, false) }) (v := ?vb05r21o32) rfl (by kernel_rfl) (by kernel_rfl) (by kernel_rfl) (fun _ _ _ h => h) (Or.inl ⟨by rfl, ?hb05r21o32⟩) hS ?_
            case hb05r21o32 => (intro wx hx; skip; go_simp; (try with_reducible rfl))
            try simp only [Act.put, List.setIfInBounds_toArray, List.set_cons_zero, List.set_cons_succ]
            refine wpAnyH_take (i := 33) (oi := { dst := some 127, op := Op.move (Operand.tmp 9), type := 35, pos := "law.go:122", after := #[{ on := 32, ground := Ground.guard }], guard := some (32, true) }) (v := ?vb05r21o33) rfl (by kernel_rfl) (by kernel_rfl) (by kernel_rfl) (fun _ _ _ h => h) (Or.inl ⟨by rfl, ?hb05r21o33⟩) hS ?_
            case hb05r21o33 => (intro wx hx; skip; go_simp; (try with_reducible rfl))
            try simp only [Act.put, List.setIfInBounds_toArray, List.set_cons_zero, List.set_cons_succ]
            refine wpAnyH_take (i := 35) (oi := { dst := some 129, op := Op.move (Operand.tmp 0), type := 46, pos := "law.go:122", after := #[{ on := 32, ground := Ground.guard }], guard := some (32, true) }) (v := ?vb05r21o35) rfl (by kernel_rfl) (by kernel_rfl) (by kernel_rfl) (fun _ _ _ h => h) (Or.inl ⟨by rfl, ?hb05r21o35⟩) hS ?_
            case hb05r21o35 => (intro wx hx; skip; go_simp; (try with_reducible rfl))
            try simp only [Act.put, List.setIfInBounds_toArray, List.set_cons_zero, List.set_cons_succ]
            refine wpAnyH_take (i := 36) (oi := { dst := some 130, op := Op.move (Operand.tmp 10), type := 3, pos := "law.go:122", after := #[{ on := 32, ground := Ground.guard }], guard := some (32, true) }) (v := ?vb05r21o36) rfl (by kernel_rfl) (by kernel_rfl) (by kernel_rfl) (fun _ _ _ h => h) (Or.inl ⟨by rfl, ?hb05r21o36⟩) hS ?_
            case hb05r21o36 => (intro wx hx; skip; go_simp; (try with_reducible rfl))
            try simp only [Act.put, List.setIfInBounds_toArray, List.set_cons_zero, List.set_cons_succ]
            refine wpAnyH_take (i := 37) (oi := { dst := some 131, op := Op.indexAddr 46 (Operand.tmp 129) (Operand.tmp 130), type := 0, pos := "law.go:122", after := #[{ on := 35, ground := Ground.data }, { on := 36, ground := Ground.data }, { on := 32, ground := Ground.guard }], guard := some (32, true) }) (v := ?vb05r21o37) rfl (by kernel_rfl) (by kernel_rfl) (by kernel_rfl) (fun _ _ _ h => h) (Or.inl ⟨by rfl, ?hb05r21o37⟩) hS ?_
            case hb05r21o37 => (intro wx hx; skip; go_simp; (try with_reducible rfl))
            try simp only [Act.put, List.setIfInBounds_toArray, List.set_cons_zero, List.set_cons_succ]
            refine wpAnyH_take (i := 38) (oi := { dst := some 132, op := Op.fieldAddr 48 (Operand.tmp 131) 1, type := 0, pos := "law.go:122", after := #[{ on := 37, ground := Ground.data }, { on := 32, ground := Ground.guard }], guard := some (32, true) }) (v := ?vb05r21o38) rfl (by kernel_rfl) (by kernel_rfl) (by kernel_rfl) (fun _ _ _ h => h) (Or.inl ⟨by rfl, ?hb05r21o38⟩) hS ?_
            case hb05r21o38 => (intro wx hx; skip; go_simp; (try with_reducible rfl))
            try simp only [Act.put, List.setIfInBounds_toArray, List.set_cons_zero, List.set_cons_succ]
            refine wpAnyH_take (i := 39) (oi := { dst := some 133, op := Op.load 23 (Operand.tmp 132), type := 23, pos := "law.go:122", after := #[{ on := 38, ground := Ground.data }, { on := 32, ground := Ground.guard }], guard := some (32, true) }) (v := ?vb05r21o39) rfl (by kernel_rfl) (by kernel_rfl) (by kernel_rfl) (fun _ _ _ h => h) (Or.inl ⟨by rfl, ?hb05r21o39⟩) hS ?_
            case hb05r21o39 => (intro wx hx; obtain ⟨s0, s1, s2⟩ := HK.out wx hx; go_simp; (try with_reducible rfl))
            try simp only [Act.put, List.setIfInBounds_toArray, List.set_cons_zero, List.set_cons_succ]
            refine wpAnyH_ready (rs := [34]) (by kernel_rfl) (by simp) ?_
            refine AllReadyH.cons (o := { dst := some 128, op := Op.call { callee := Callee.value (Operand.func 23), args := #[Operand.tmp 127], argTypes := #[35] }, type := 23, pos := "law.go:122", after := #[{ on := 33, ground := Ground.data }, { on := 32, ground := Ground.chain }, { on := 32, ground := Ground.guard }], guard := some (32, true) }) rfl (fun K hK => ?_) AllReadyH.nil
            go_simp
            refine (HRd.out _ hTA).mono ?_
            rintro e wB ⟨rfl, hTB, hgB⟩
            have hgwB := grown_new hgwA hgB (by intro k e; cases e; exact hBg)
            refine hK.out _ _ ?hsb05r21o34 (fun hS => ?_)
            case hsb05r21o34 => (assumption)
            clear hK K
            try simp only [Act.put, List.setIfInBounds_toArray, List.set_cons_zero, List.set_cons_succ]
            refine wpAnyH_take (i := 40) (oi := { dst := some 134, op := Op.binOp BinOp.neq 23 (Operand.tmp 128) (Operand.tmp 133) 23, type := 4, pos := "law.go:122", after := #[{ on := 34, ground := Ground.data }, { on := 39, ground := Ground.data }, { on := 32, ground := Ground.guard }], guard := some (32, true) }) (v := ?vb05r21o40) rfl (by kernel_rfl) (by kernel_rfl) (by kernel_rfl) (fun _ _ _ h => h) (Or.inl ⟨by rfl, ?hb05r21o40⟩) hS ?_
            case hb05r21o40 => (intro wx hx; skip; go_simp; (try with_reducible rfl))
            try simp only [Act.put, List.setIfInBounds_toArray, List.set_cons_zero, List.set_cons_succ]
            refine wpAnyH_take (i := 41) (oi := { dst := some 135, op := Op.pick (Operand.tmp 126) (Operand.tmp 134) (Operand.const (Value.bool false)), type := 4, pos := "law.go:122", after := #[{ on := 32, ground := Ground.data }, { on := 40, ground := Ground.data }, { on := 25, ground := Ground.guard }], guard := some (25, false) }) (v := ?vb05r21o41) rfl (by kernel_rfl) (by kernel_rfl) (by kernel_rfl) (fun _ _ _ h => h) (Or.inl ⟨by rfl, ?hb05r21o41⟩) hS ?_
            case hb05r21o41 => (intro wx hx; skip; go_simp; (try with_reducible rfl))
            try simp only [Act.put, List.setIfInBounds_toArray, List.set_cons_zero, List.set_cons_succ]
            refine wpAnyH_take (i := 42) (oi := { dst := some 136, op := Op.pick (Operand.tmp 119) (Operand.const (Value.bool true)) (Operand.tmp 135), type := 4, pos := "law.go:122", after := #[{ on := 25, ground := Ground.data }, { on := 41, ground := Ground.data }], guard := none }) (v := ?vb05r21o42) rfl (by kernel_rfl) (by kernel_rfl) (by kernel_rfl) (fun _ _ _ h => h) (Or.inl ⟨by rfl, ?hb05r21o42⟩) hS ?_
            case hb05r21o42 => (intro wx hx; skip; go_simp; (try with_reducible rfl))
            try simp only [Act.put, List.setIfInBounds_toArray, List.set_cons_zero, List.set_cons_succ]
            refine wpAnyH_take (i := 43) (oi := { dst := some 137, op := Op.move (Operand.tmp 136), type := 4, pos := "law.go:122", after := #[{ on := 42, ground := Ground.data }, { on := 34, ground := Ground.chain }], guard := none }) (v := ?vb05r21o43) rfl (by kernel_rfl) (by kernel_rfl) (by kernel_rfl) (fun _ _ _ h => h) (Or.inl ⟨by rfl, ?hb05r21o43⟩) hS ?_
            case hb05r21o43 => (intro wx hx; skip; go_simp; (try with_reducible rfl))
            try simp only [Act.put, List.setIfInBounds_toArray, List.set_cons_zero, List.set_cons_succ]
            refine wpAnyH_take (i := 44) (oi := { dst := some 138, op := Op.move (Operand.tmp 9), type := 35, pos := "law.go:122", after := #[{ on := 43, ground := Ground.guard }], guard := some (43, false) }) (v := ?vb05r21o44) rfl (by kernel_rfl) (by kernel_rfl) (by kernel_rfl) (fun _ _ _ h => h) (Or.inl ⟨by rfl, ?hb05r21o44⟩) hS ?_
            case hb05r21o44 => (intro wx hx; skip; go_simp; (try with_reducible rfl))
            try simp only [Act.put, List.setIfInBounds_toArray, List.set_cons_zero, List.set_cons_succ]
            refine wpAnyH_ready (rs := [45]) (by kernel_rfl) (by simp) ?_
            refine AllReadyH.cons (o := { dst := some 139, op := Op.call { callee := Callee.value (Operand.func 27), args := #[Operand.tmp 138], argTypes := #[35] }, type := 4, pos := "law.go:122", after := #[{ on := 44, ground := Ground.data }, { on := 43, ground := Ground.chain }, { on := 43, ground := Ground.guard }], guard := some (43, false) }) rfl (fun K hK => ?_) AllReadyH.nil
            go_simp
            refine (HTo.out _ hTB).mono ?_
            rintro e wC ⟨rfl, hTC, hgC⟩
            have hgwC := grown_new hgwB hgC (by intro k e; cases e; exact hBg)
            refine hK.out _ _ ?hsb05r21o45 (fun hS => ?_)
            case hsb05r21o45 => (assumption)
            clear hK K
            try simp only [Act.put, List.setIfInBounds_toArray, List.set_cons_zero, List.set_cons_succ]
            refine wpAnyH_take (i := 46) (oi := { dst := some 140, op := Op.pick (Operand.tmp 137) (Operand.const (Value.bool true)) (Operand.tmp 139), type := 4, pos := "law.go:122", after := #[{ on := 43, ground := Ground.data }, { on := 45, ground := Ground.data }], guard := none }) (v := ?vb05r21o46) rfl (by kernel_rfl) (by kernel_rfl) (by kernel_rfl) (fun _ _ _ h => h) (Or.inl ⟨by rfl, ?hb05r21o46⟩) hS ?_
            case hb05r21o46 => (intro wx hx; skip; go_simp; (try with_reducible rfl))
            try simp only [Act.put, List.setIfInBounds_toArray, List.set_cons_zero, List.set_cons_succ]
            refine wpAnyH_done (by kernel_rfl) ?_ _
            go_wp2
            go_roundw
            case rel => exact ⟨j + 1, by omega, by go_num, hTC, hgwC⟩
            case measure => simp [intOf]; omega
        · obtain rfl : j = i := by omega
          have hEndAll : endOf L j = (encAll L).length := by unfold endOf; rw [List.take_of_length_le (by rw [HL.out]; exact Nat.le_refl _)]
          have hEn := End_any B g d (encAll L) (endOf L j) false wr hT
          rw [show decide (endOf L j = (encAll L).length) = true from by simp [hEndAll]] at hEn
          have HEn := Lib.hid hEn
          clear hEn hEndAll
          go_wp2_with fail
          refine HEn.out.mono ?_
          rintro e wA ⟨rfl, hTA, hgA⟩
          have hg := grown_new hg hgA (by intro k e; cases e; exact HgW.out)
          clear HEn hT hgA hTA
          have HNew := Lib.hid (New_any a1 len1 cap1 raw wA HR.out (HRat.out.grown hg (by simp)) HRn.out (by omega))
          go_wp2_with fail
          refine HNew.out.mono ?_
          rintro e wB ⟨g2, d2, rfl, hT, hgB⟩
          have hB2 := hg.size
          have HgW2 := Lib.hid (Nat.le_trans hB2 hT.low)
          have hg := grown_trans hg hgB
          generalize wA.heap.size = B2 at hT
          clear hgB HNew hB2 HgW
          go_wp2_with fail
          go_loopw [12, 13] (fun s12 s13 wr => Rel3 w raw B2 g2 d2 s12 s13 wr) (fun _ s13 _ => len1 + 1 - (intOf s13).toNat)
          case atStart => exact ⟨0, 0, none, 0, Nat.le_refl _, Nat.zero_le _, rfl, rfl, fun _ => ⟨rfl, rfl⟩, Nat.le_refl _, by rw [List.take_zero]; exact At.nil _ _, hT, hg, by simp⟩
          case round =>
            clear hT hg
            obtain ⟨k, a, ad, cp, hka, hal, rfl, rfl, hnil, hcp, hat, hT, hg, hne⟩ := hrel
            rw [HR.out] at hal
            have hlt' : (k : Int) ≤ (len1 : Int) := by omega
            have hnum := Number_step_any B2 g2 d2 raw a false wr hT
            have hgt : g2 < wr.heap.size := lt_of_block hT.cells
            cases hN : numAt (raw.drop a) with
            | none =>
              have e : numberR raw a false = (0, a, true) := by unfold numberR; rw [if_neg (by decide), hN]
              rw [e] at hnum
              have HNu := Lib.hid hnum
              clear e hnum hN
              go_wp2_with fail
              refine HNu.out.mono ?_
              rintro e wC ⟨rfl, hTC, hgC⟩
              have hg := grown_new hg hgC (by intro k e; cases e; exact HgW2.out)
              have hat := hat.grown hgC (by intro x hx _ h; injection h with h; exact (hne x hx).1 h)
              clear hgC HNu hT
              have HTo := Lib.hid (Torn_any B2 g2 d2 raw a true wC hTC)
              go_wp2_with fail
              refine HTo.out.mono ?_
              rintro e wD ⟨rfl, hTD, hgD⟩
              have hg := grown_new hg hgD (by intro k e; cases e; exact HgW2.out)
              have hat := hat.grown hgD (by intro x hx _ h; injection h with h; exact (hne x hx).1 h)
              clear hgD HTo hTC hTD
              have hraw : At wD a1 ((raw.take a).map bv) := by
                have h := HRat.out.grown hg (by simp)
                rw [← List.take_append_drop a raw, List.map_append] at h
                exact at_prefix h
              have hal' : (raw.take a).length = a := by rw [List.length_take, HR.out]; omega
              have HC1 := Lib.hid (fun wx (hx : wD.grownBy wx none) => conv_at (P := Try.prog) 22 9 5 Try.underlying22 Try.underlying5 Try.underlying9 (cap := cap1) (hraw.grown hx (by simp)) hal' (fun e => by have := (HRn.out e).1; omega))
              have HC2 := Lib.hid (fun wx (hx : wD.grownBy wx none) => conv_at (P := Try.prog) 22 9 5 Try.underlying22 Try.underlying5 Try.underlying9 (cap := cp) (hat.grown hx (by simp)) hal' (fun e => (hnil e).1))
              have ha0 : (0 : Int) ≤ (a : Int) := by omega
              have ha1 : (a : Int) ≤ (len1 : Int) := by omega
              have ha2 : (a : Int) ≤ (cap1 : Int) := by omega
              generalize str (raw.take a) = R at HC1 HC2
              have hq : (R.toList == R.toList) = true := by simp
              obtain ⟨wz, rfl⟩ : ∃ wz, wz = wD := ⟨_, rfl⟩
              have hgz := hg
              clear hraw hat hal' hg
              go_wp2_with fail
              refine wp_region_held_drew (S := fun w' => wz.grownBy w' none) (by kernel_rfl) (grown_drew (World.grownBy.refl _ _)) (fun hS => ?_)
              refine wpAnyH_take (i := 0) (oi := { dst := some 161, op := Op.move (Operand.tmp 12), type := 22, pos := "law.go:141", after := #[], guard := none }) (v := ?vr5r35o0) rfl (by kernel_rfl) (by kernel_rfl) (by kernel_rfl) (fun _ _ _ h => h) (Or.inl ⟨by rfl, ?hr5r35o0⟩) hS ?_
              case hr5r35o0 => (intro wx hx; skip; go_simp; (try with_reducible rfl))
              try simp only [Act.put, List.setIfInBounds_toArray, List.set_cons_zero, List.set_cons_succ]
              refine wpAnyH_take (i := 1) (oi := { dst := some 162, op := Op.call { callee := Callee.builtin Builtin.len, args := #[Operand.tmp 161], argTypes := #[22] }, type := 3, pos := "law.go:141", after := #[{ on := 0, ground := Ground.data }], guard := none }) (v := ?vr5r35o1) rfl (by kernel_rfl) (by kernel_rfl) (by kernel_rfl) (fun _ _ _ h => h) (Or.inl ⟨by rfl, ?hr5r35o1⟩) hS ?_
              case hr5r35o1 => (intro wx hx; skip; go_simp; (try with_reducible rfl))
              try simp only [Act.put, List.setIfInBounds_toArray, List.set_cons_zero, List.set_cons_succ]
              refine wpAnyH_take (i := 2) (oi := { dst := some 163, op := Op.move (Operand.tmp 1), type := 22, pos := "law.go:141", after := #[], guard := none }) (v := ?vr5r35o2) rfl (by kernel_rfl) (by kernel_rfl) (by kernel_rfl) (fun _ _ _ h => h) (Or.inl ⟨by rfl, ?hr5r35o2⟩) hS ?_
              case hr5r35o2 => (intro wx hx; skip; go_simp; (try with_reducible rfl))
              try simp only [Act.put, List.setIfInBounds_toArray, List.set_cons_zero, List.set_cons_succ]
              refine wpAnyH_take (i := 3) (oi := { dst := some 164, op := Op.call { callee := Callee.builtin Builtin.len, args := #[Operand.tmp 163], argTypes := #[22] }, type := 3, pos := "law.go:141", after := #[{ on := 2, ground := Ground.data }], guard := none }) (v := ?vr5r35o3) rfl (by kernel_rfl) (by kernel_rfl) (by kernel_rfl) (fun _ _ _ h => h) (Or.inl ⟨by rfl, ?hr5r35o3⟩) hS ?_
              case hr5r35o3 => (intro wx hx; skip; go_simp; (try with_reducible rfl))
              try simp only [Act.put, List.setIfInBounds_toArray, List.set_cons_zero, List.set_cons_succ]
              refine wpAnyH_take (i := 4) (oi := { dst := some 165, op := Op.binOp BinOp.leq 3 (Operand.tmp 162) (Operand.tmp 164) 3, type := 4, pos := "law.go:141", after := #[{ on := 1, ground := Ground.data }, { on := 3, ground := Ground.data }], guard := none }) (v := ?vr5r35o4) rfl (by kernel_rfl) (by kernel_rfl) (by kernel_rfl) (fun _ _ _ h => h) (Or.inl ⟨by rfl, ?hr5r35o4⟩) hS ?_
              case hr5r35o4 => (intro wx hx; skip; go_simp; (try with_reducible rfl))
              try simp only [Act.put, List.setIfInBounds_toArray, List.set_cons_zero, List.set_cons_succ]
              refine wpAnyH_take (i := 5) (oi := { dst := some 166, op := Op.move (Operand.tmp 165), type := 4, pos := "law.go:141", after := #[{ on := 4, ground := Ground.data }], guard := none }) (v := ?vr5r35o5) rfl (by kernel_rfl) (by kernel_rfl) (by kernel_rfl) (fun _ _ _ h => h) (Or.inl ⟨by rfl, ?hr5r35o5⟩) hS ?_
              case hr5r35o5 => (intro wx hx; skip; go_simp; (try with_reducible rfl))
              try simp only [Act.put, List.setIfInBounds_toArray, List.set_cons_zero, List.set_cons_succ]
              refine wpAnyH_take (i := 6) (oi := { dst := some 167, op := Op.move (Operand.tmp 1), type := 22, pos := "law.go:141", after := #[{ on := 5, ground := Ground.guard }], guard := some (5, true) }) (v := ?vr5r35o6) rfl (by kernel_rfl) (by kernel_rfl) (by kernel_rfl) (fun _ _ _ h => h) (Or.inl ⟨by rfl, ?hr5r35o6⟩) hS ?_
              case hr5r35o6 => (intro wx hx; skip; go_simp; (try with_reducible rfl))
              try simp only [Act.put, List.setIfInBounds_toArray, List.set_cons_zero, List.set_cons_succ]
              refine wpAnyH_take (i := 7) (oi := { dst := some 168, op := Op.move (Operand.tmp 12), type := 22, pos := "law.go:141", after := #[{ on := 5, ground := Ground.guard }], guard := some (5, true) }) (v := ?vr5r35o7) rfl (by kernel_rfl) (by kernel_rfl) (by kernel_rfl) (fun _ _ _ h => h) (Or.inl ⟨by rfl, ?hr5r35o7⟩) hS ?_
              case hr5r35o7 => (intro wx hx; skip; go_simp; (try with_reducible rfl))
              try simp only [Act.put, List.setIfInBounds_toArray, List.set_cons_zero, List.set_cons_succ]
              refine wpAnyH_take (i := 8) (oi := { dst := some 169, op := Op.call { callee := Callee.builtin Builtin.len, args := #[Operand.tmp 168], argTypes := #[22] }, type := 3, pos := "law.go:141", after := #[{ on := 7, ground := Ground.data }, { on := 5, ground := Ground.guard }], guard := some (5, true) }) (v := ?vr5r35o8) rfl (by kernel_rfl) (by kernel_rfl) (by kernel_rfl) (fun _ _ _ h => h) (Or.inl ⟨by rfl, ?hr5r35o8⟩) hS ?_
              case hr5r35o8 => (intro wx hx; skip; go_simp; (try with_reducible rfl))
              try simp only [Act.put, List.setIfInBounds_toArray, List.set_cons_zero, List.set_cons_succ]
              refine wpAnyH_take (i := 9) (oi := { dst := some 170, op := Op.slice 22 (Operand.tmp 167) none (some (Operand.tmp 169)) none, type := 22, pos := "law.go:141", after := #[{ on := 6, ground := Ground.data }, { on := 8, ground := Ground.data }, { on := 5, ground := Ground.guard }], guard := some (5, true) }) (v := ?vr5r35o9) rfl (by kernel_rfl) (by kernel_rfl) (by kernel_rfl) (fun _ _ _ h => h) (Or.inl ⟨by rfl, ?hr5r35o9⟩) hS ?_
              case hr5r35o9 => (intro wx hx; skip; go_simp; (try with_reducible rfl))
              try simp only [Act.put, List.setIfInBounds_toArray, List.set_cons_zero, List.set_cons_succ]
              refine wpAnyH_take (i := 10) (oi := { dst := some 171, op := Op.convert 22 9 (Operand.tmp 170), type := 9, pos := "law.go:141", after := #[{ on := 9, ground := Ground.data }, { on := 5, ground := Ground.guard }], guard := some (5, true) }) (v := ?vr5r35o10) rfl (by kernel_rfl) (by kernel_rfl) (by kernel_rfl) (fun _ _ _ h => h) (Or.inl ⟨by rfl, ?hr5r35o10⟩) hS ?_
              case hr5r35o10 => (intro wx hx; have f1 := HC1.out wx hx; go_simp; (try with_reducible rfl))
              try simp only [Act.put, List.setIfInBounds_toArray, List.set_cons_zero, List.set_cons_succ]
              refine wpAnyH_take (i := 11) (oi := { dst := some 172, op := Op.move (Operand.tmp 12), type := 22, pos := "law.go:141", after := #[{ on := 5, ground := Ground.guard }], guard := some (5, true) }) (v := ?vr5r35o11) rfl (by kernel_rfl) (by kernel_rfl) (by kernel_rfl) (fun _ _ _ h => h) (Or.inl ⟨by rfl, ?hr5r35o11⟩) hS ?_
              case hr5r35o11 => (intro wx hx; skip; go_simp; (try with_reducible rfl))
              try simp only [Act.put, List.setIfInBounds_toArray, List.set_cons_zero, List.set_cons_succ]
              refine wpAnyH_take (i := 12) (oi := { dst := some 173, op := Op.convert 22 9 (Operand.tmp 172), type := 9, pos := "law.go:141", after := #[{ on := 11, ground := Ground.data }, { on := 5, ground := Ground.guard }], guard := some (5, true) }) (v := ?vr5r35o12) rfl (by kernel_rfl) (by kernel_rfl) (by kernel_rfl) (fun _ _ _ h => h) (Or.inl ⟨by rfl, ?hr5r35o12⟩) hS ?_
              case hr5r35o12 => (intro wx hx; have f2 := HC2.out wx hx; go_simp; (try with_reducible rfl))
              try simp only [Act.put, List.setIfInBounds_toArray, List.set_cons_zero, List.set_cons_succ]
              refine wpAnyH_take (i := 13) (oi := { dst := some 174, op := Op.binOp BinOp.eql 9 (Operand.tmp 171) (Operand.tmp 173) 9, type := 4, pos := "law.go:141", after := #[{ on := 10, ground := Ground.data }, { on := 12, ground := Ground.data }, { on := 5, ground := Ground.guard }], guard := some (5, true) }) (v := ?vr5r35o13) rfl (by kernel_rfl) (by kernel_rfl) (by kernel_rfl) (fun _ _ _ h => h) (Or.inl ⟨by rfl, ?hr5r35o13⟩) hS ?_
              case hr5r35o13 => (intro wx hx; skip; go_simp; (try with_reducible rfl))
              try simp only [Act.put, List.setIfInBounds_toArray, List.set_cons_zero, List.set_cons_succ]
              refine wpAnyH_take (i := 14) (oi := { dst := some 175, op := Op.pick (Operand.tmp 166) (Operand.tmp 174) (Operand.const (Value.bool false)), type := 4, pos := "law.go:141", after := #[{ on := 5, ground := Ground.data }, { on := 13, ground := Ground.data }], guard := none }) (v := ?vr5r35o14) rfl (by kernel_rfl) (by kernel_rfl) (by kernel_rfl) (fun _ _ _ h => h) (Or.inl ⟨by rfl, ?hr5r35o14⟩) hS ?_
              case hr5r35o14 => (intro wx hx; skip; go_simp; (try with_reducible rfl))
              try simp only [Act.put, List.setIfInBounds_toArray, List.set_cons_zero, List.set_cons_succ]
              refine wpAnyH_take (i := 15) (oi := { dst := some 176, op := Op.move (Operand.tmp 175), type := 4, pos := "law.go:141", after := #[{ on := 14, ground := Ground.data }, { on := 5, ground := Ground.chain }], guard := none }) (v := ?vr5r35o15) rfl (by kernel_rfl) (by kernel_rfl) (by kernel_rfl) (fun _ _ _ h => h) (Or.inl ⟨by rfl, ?hr5r35o15⟩) hS ?_
              case hr5r35o15 => (intro wx hx; skip; go_simp; (try with_reducible rfl))
              try simp only [Act.put, List.setIfInBounds_toArray, List.set_cons_zero, List.set_cons_succ]
              refine wpAnyH_ready (rs := [16]) (by kernel_rfl) (by simp) ?_
              refine AllReadyH.cons (o := { dst := some 177, op := Op.call { callee := Callee.value (Operand.func 10), args := #[], argTypes := #[] }, type := 4, pos := "law.go:141", after := #[{ on := 15, ground := Ground.chain }, { on := 15, ground := Ground.guard }], guard := some (15, true) }) rfl (fun K hK => ?_) AllReadyH.nil
              go_simp
              refine (works_any _).mono ?_
              rintro e wE ⟨rfl, hgE⟩
              have hgwE := grown_trans (grown_drew (World.grownBy.refl wz none)) hgE
              refine hK.out _ _ ?hsr5r35o16 (fun hS => ?_)
              case hsr5r35o16 => (assumption)
              clear hK K
              try simp only [Act.put, List.setIfInBounds_toArray, List.set_cons_zero, List.set_cons_succ]
              refine wpAnyH_take (i := 17) (oi := { dst := some 178, op := Op.pick (Operand.tmp 176) (Operand.tmp 177) (Operand.const (Value.bool false)), type := 4, pos := "law.go:141", after := #[{ on := 15, ground := Ground.data }, { on := 16, ground := Ground.data }], guard := none }) (v := ?vr5r35o17) rfl (by kernel_rfl) (by kernel_rfl) (by kernel_rfl) (fun _ _ _ h => h) (Or.inl ⟨by rfl, ?hr5r35o17⟩) hS ?_
              case hr5r35o17 => (intro wx hx; skip; go_simp; (try with_reducible rfl))
              try simp only [Act.put, List.setIfInBounds_toArray, List.set_cons_zero, List.set_cons_succ]
              refine wpAnyH_take (i := 18) (oi := { dst := some 4, op := Op.assign (Operand.tmp 178), type := 4, pos := "law.go:141", after := #[{ on := 17, ground := Ground.data }, { on := 16, ground := Ground.chain }, { on := 0, ground := Ground.phase }, { on := 1, ground := Ground.phase }, { on := 2, ground := Ground.phase }, { on := 3, ground := Ground.phase }, { on := 4, ground := Ground.phase }, { on := 5, ground := Ground.phase }, { on := 6, ground := Ground.phase }, { on := 7, ground := Ground.phase }, { on := 8, ground := Ground.phase }, { on := 9, ground := Ground.phase }, { on := 10, ground := Ground.phase }, { on := 11, ground := Ground.phase }, { on := 12, ground := Ground.phase }, { on := 13, ground := Ground.phase }, { on := 14, ground := Ground.phase }, { on := 15, ground := Ground.phase }, { on := 16, ground := Ground.phase }, { on := 17, ground := Ground.phase }], guard := none }) (v := ?vr5r35o18) rfl (by kernel_rfl) (by kernel_rfl) (by kernel_rfl) (fun _ _ _ h => h) (Or.inl ⟨by rfl, ?hr5r35o18⟩) hS ?_
              case hr5r35o18 => (intro wx hx; skip; go_simp; (try with_reducible rfl))
              try simp only [Act.put, List.setIfInBounds_toArray, List.set_cons_zero, List.set_cons_succ]
              refine wpAnyH_done (by kernel_rfl) ?_ _
              go_wp2
              go_ret
              exact ⟨rfl, grown_trans hgz hgwE⟩
            | some nk =>
              obtain ⟨n, c⟩ := nk
              have e : numberR raw a false = (n, a + c, false) := by unfold numberR; rw [if_neg (by decide), hN]
              rw [e] at hnum
              have HNu := Lib.hid hnum
              have hlt := numAt_lt _ _ _ hN
              have hbk := numAt_back _ _ _ hN
              have hap : raw.take a ++ num n = raw.take (a + c) := by rw [hbk.1, List.take_add]
              rw [List.length_drop, HR.out] at hlt
              have hc1 := hbk.2
              have hn64 := hlt.1
              have hc2 := hlt.2.2
              clear e hnum hN hbk hlt
              go_wp2_with fail
              refine HNu.out.mono ?_
              rintro e wC ⟨rfl, hTC, hgC⟩
              have hg := grown_new hg hgC (by intro k e; cases e; exact HgW2.out)
              have hat := hat.grown hgC (by intro x hx _ h; injection h with h; exact (hne x hx).1 h)
              clear hgC HNu hT
              have HTo := Lib.hid (Torn_any B2 g2 d2 raw (a + c) false wC hTC)
              go_wp2_with fail
              refine HTo.out.mono ?_
              rintro e wD ⟨rfl, hTD, hgD⟩
              have hg := grown_new hg hgD (by intro k e; cases e; exact HgW2.out)
              have hat := hat.grown hgD (by intro x hx _ h; injection h with h; exact (hne x hx).1 h)
              clear hgD HTo hTC
              have hal' : (raw.take a).length = a := by rw [List.length_take, HR.out]; omega
              have hN2 := Number_any ad a cp (raw.take a) n wD hn64 hal' hat hnil (by omega)
              rw [hap] at hN2
              have HN2 := Lib.hid hN2
              have hl2 : (raw.take (a + c)).length = a + c := by rw [List.length_take, HR.out]; omega
              have hgt2 : g2 < wD.heap.size := lt_of_block hTD.cells
              clear hN2 hal' hap hat hnil hcp hne
              go_wp2_with fail
              refine HN2.out.mono ?_
              rintro e wE ⟨ad2, cp2, rfl, hat2, hn2, hcp2, hgE⟩
              rw [hl2] at hn2 hcp2 ⊢
              have hTE := hTD.keep hgE (by simp) (by simp)
              have hgs := hg.size
              have hg := grown_trans hg hgE
              clear HN2 hTD hl2
              go_wp2
              go_roundw
              case rel => exact ⟨k + 1, a + c, ad2, cp2, by omega, by rw [HR.out]; omega, by go_num, rfl, hn2, hcp2.1, hat2, hTE, hg, fun x hx => by have := hcp2.2 x hx; omega⟩
              case measure => simp [intOf]; omega

theorem walk (a0 : Option Addr) (len0 cap0 : Nat) (L : List It) (a1 : Option Addr) (len1 cap1 : Nat) (z1 : List Int) (w : World) (w0 : ItemsIn w a0 len0 L) (w1 : RowIn .u8 w a1 len1 cap1 z1) :
    Calls Try.prog 5 #[.slice a0 len0 cap0, .slice a1 len1 cap1] w (WorksIs w) := by
  obtain ⟨bs, hl1, hat1⟩ := w1.bytes
  by_cases h : 60 < len0 ∨ 1024 < len1
  · exact walk_far a0 len0 cap0 a1 len1 cap1 w h
  · exact walk_at a0 len0 cap0 L a1 len1 cap1 bs w w0 (by omega) hl1 hat1 (fun e => w1.nil e) (by omega) w1.2.1
end Go.Proofs.Ytingkjmbeloepaa.octetBack
