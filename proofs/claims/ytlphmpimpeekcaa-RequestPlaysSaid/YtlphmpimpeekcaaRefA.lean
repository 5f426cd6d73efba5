/- The document's own answers for octet: Number and Text. -/
import Derived.Test.YtlphmpimpeekcaaOctD
import Derived.Test.YtlphmpimpeekcaaBase2
import Derived.Test.YtlphmpimpeekcaaShortMath
namespace Go.Proofs.Ytlphmpimpeekcaa
open Go.RowKit Go.Grommet

set_option maxHeartbeats 2000000 in
theorem RNumber_owns (ad : Option Addr) (l cap : Nat) (bs : List UInt8) (n : Nat) (w : World) (hn : n < 2 ^ 64) (hl : bs.length = l) (hat : At w ad (bs.map bv)) (hnil : ad = none → l = 0 ∧ cap = 0) (hb : l ≤ 1048576) :
    Calls Try.prog 37 #[.slice ad l cap, .int .u64 (n : Int)] w (fun e w' => ∃ v, e = .returned v ∧ w'.ownsRow w.heap.size 5 1 v (l + 1 + nb n) ((bs ++ num n).map bv) ∧ w.grownBy w' none) := by
  obtain ⟨i0, hi, hz0, hz1, hz2⟩ := info_parts Try.info5
  have h8 := nb_le n hn
  go_enter Try.func37, Try.ntmps37
  go_wp2_with (at_builtin; refine wpList_append_at rfl _ _ 25 rfl w.heap.size 5 i0 (.int .u8 0) 1 Try.underlying25 hi hz0 hz1 hz2 rfl _ 0 [] rfl ?a1 ad l cap (bs.map bv) rfl ?a2 ?a3 hnil ?a4 ?a5 ?a6 ?a7 ?_)
  case a1 => exact World.ownsRow_made w #[] 0 (Nat.le_refl _) (by decide) (by simp)
  case a2 => simp [hl]
  case a3 => exact hat.grown (World.grownBy_alloc w _ none) (by simp)
  case a4 => exact bv_oneCell bs
  case a5 => unfold maxLen; omega
  case a6 => omega
  case a7 => simp
  intro v1 w1 hown1 hg1
  have hg1 := grown_new (World.grownBy_alloc w (.cells #[] 5) none) hg1 (by intro g e; simp [Value.ownBlock] at e; omega)
  obtain ⟨ad1, cap1, rfl, hat1, hn1, _, hb1⟩ := owns_slice hown1
  obtain ⟨B, HB⟩ : ∃ B, Hid (B = w1.heap.size) := ⟨_, Lib.hid rfl⟩
  have hBw : w.heap.size ≤ B := by rw [HB.out]; exact hg1.size
  have hlt1 : ∀ g, (Value.slice ad1 l cap1).ownBlock = some g → g < B := by rw [HB.out]; exact fun g h => (hown1.lt g h).2
  have hmono := nb_lt n hn
  have hge := nb_ge n hn
  have Hlt := Lib.hid hmono
  have Hge := Lib.hid hge
  clear hmono hge hat hat1 hnil
  go_wp2_with fail
  go_loopw [1, 6] (fun s1 s6 wr => ∃ k adk capk, k ≤ nb n ∧ s1 = .int .u64 ((n / 256 ^ k : Nat) : Int) ∧ s6 = .slice adk k capk ∧
      wr.ownsRow B 5 1 (.slice adk k capk) k ((les n k).map bv) ∧ wr.ownsRow w.heap.size 5 1 (.slice ad1 l cap1) l (bs.map bv) ∧ w.grownBy wr none ∧ B ≤ wr.heap.size)
    (fun s1 _ _ => (intOf s1).toNat)
  case atStart => exact ⟨0, none, 0, Nat.zero_le _, by simp, rfl, World.ownsRow_nil _ _ _ _, hown1, hg1, by rw [HB.out]; exact Nat.le_refl _⟩
  case round =>
    obtain ⟨k, adk, capk, hk, rfl, rfl, hown, hout, hg, hBs⟩ := hrel
    clear hown1 hg1
    obtain ⟨V, HV⟩ : ∃ V, Hid (V = n / 256 ^ k) := ⟨_, Lib.hid rfl⟩
    rw [← HV.out]
    by_cases h0 : 0 < V
    · have hkn : k < nb n := by
        rcases Nat.lt_or_ge k (nb n) with h | h
        · exact h
        · have e : k = nb n := by omega
          have : n / 256 ^ k = 0 := by rw [e]; exact Nat.div_eq_of_lt Hlt.out
          rw [HV.out, this] at h0
          omega
      have h0' : (0 : Int) < (V : Int) := by omega
      have hV64 : (V : Int) ≤ 18446744073709551615 := by
        have : V ≤ n := by rw [HV.out]; exact Nat.div_le_self _ _
        omega
      have hvc : (V : Int) % 256 = ((byteAt n k).toNat : Int) := by rw [byteAt_toNat, HV.out]; simp
      have hc := (byteAt n k).toNat_lt
      go_wp2_with (at_builtin; refine wpList_append_at rfl _ _ 25 rfl B 5 i0 (.int .u8 0) 1 Try.underlying25 hi hz0 hz1 hz2 rfl _ k ((les n k).map bv) rfl (hown.alloc _) (some ⟨wr.heap.size, 0, none⟩) 1 1 [.int .u8 ((byteAt n k).toNat : Int)] rfl ?b2 ?b3 ?b4 ?b5 ?b6 ?b7 ?b8 ?_)
      case b2 => rfl
      case b3 => exact at_one _ _ _
      case b4 => simp
      case b5 => exact one_oneCell _ _
      case b6 => unfold maxLen; omega
      case b7 => omega
      case b8 => simp; omega
      intro v2 w2 hown2 hg2
      have hb2 : ∀ g, (Value.slice adk k capk).ownBlock = some g → B ≤ g := fun g h => (hown.lt g h).1
      have hout2 := (hout.alloc (.cells #[.int .u8 ((byteAt n k).toNat : Int)] 5)).kept hg2 (by
        rcases ho : (Value.slice ad1 l cap1).ownBlock with _ | g
        · exact Or.inl rfl
        · refine Or.inr (fun e => ?_)
          have h1 := hlt1 g ho
          have h2 := hb2 g e.symm
          omega)
      have hsz2 := hg2.size
      have hg' := grown_new (grown_trans hg (World.grownBy_alloc wr _ none)) hg2 (by intro g e; have := hb2 g e; omega)
      have hBs2 : B ≤ w2.heap.size := by simp at hsz2; omega
      obtain ⟨ad2, cap2, rfl, _⟩ := owns_slice hown2
      have hst := div_step n k
      have hV2 : V / 256 = n / 256 ^ (k + 1) := by rw [HV.out, Nat.div_div_eq_div_mul, ← Nat.pow_succ]
      have hVl : V / 256 < V := Nat.div_lt_self h0 (by decide)
      have HV2 := Lib.hid hV2
      clear hown hout hg hg2 hsz2 hst hV2 hb2 hvc
      go_wp2
      go_roundw
      case rel =>
        refine ⟨k + 1, ad2, cap2, by omega, ?_, rfl, by rw [les_succ, List.map_append]; exact hown2, hout2, hg', hBs2⟩
        rw [← HV2.out]
        go_num
      case measure => simp [intOf]; omega
    · have hV0 : V = 0 := by omega
      have hke : k = nb n := by
        rcases Nat.lt_or_ge k (nb n) with h | h
        · exfalso
          have hn0 : n ≠ 0 := by intro e; rw [e] at h; rw [(nb_zero 0 (by decide)).2 rfl] at h; omega
          have a := Hge.out hn0
          have b : 256 ^ k ≤ 256 ^ (nb n - 1) := Nat.pow_le_pow_right (by decide) (by omega)
          have c : 1 ≤ n / 256 ^ k := (Nat.le_div_iff_mul_le (Nat.pow_pos (by decide))).2 (by omega)
          rw [← HV.out] at c; omega
        · omega
      subst hke hV0
      have hnb8 : ((nb n : Nat) : Int) ≤ 255 := by omega
      go_wp2_with (at_builtin; refine wpList_append_at rfl _ _ 25 rfl w.heap.size 5 i0 (.int .u8 0) 1 Try.underlying25 hi hz0 hz1 hz2 rfl _ l (bs.map bv) rfl (hout.alloc _) (some ⟨wr.heap.size, 0, none⟩) 1 1 [.int .u8 ((nb n : Nat) : Int)] rfl ?c2 ?c3 ?c4 ?c5 ?c6 ?c7 ?c8 ?_)
      case c2 => rfl
      case c3 => exact at_one _ _ _
      case c4 => simp
      case c5 => exact one_oneCell _ _
      case c6 => unfold maxLen; omega
      case c7 => omega
      case c8 => simp; omega
      intro v3 w3 hown3 hg3
      have hb3 : ∀ g, (Value.slice ad1 l cap1).ownBlock = some g → w.heap.size ≤ g := fun g h => (hout.lt g h).1
      have hown' := (hown.alloc (.cells #[.int .u8 ((nb n : Nat) : Int)] 5)).kept hg3 (by
        rcases ho : (Value.slice adk (nb n) capk).ownBlock with _ | g
        · exact Or.inl rfl
        · refine Or.inr (fun e => ?_)
          have h1 := (hown.lt g ho).1
          have h2 := hlt1 g e.symm
          omega)
      have hg' := grown_new (grown_trans hg (World.grownBy_alloc wr _ none)) hg3 hb3
      have hsz3 := hg'.size
      obtain ⟨ad3, cap3, rfl, _⟩ := owns_slice hown3
      obtain ⟨adk', capk', hek, hatk, hnk, _⟩ := at_of_owns hown'
      cases hek
      clear hown hout hg hg3 hb3 hown'
      go_wp2_with (at_builtin; refine wpList_append_at rfl _ _ 25 rfl w.heap.size 5 i0 (.int .u8 0) 1 Try.underlying25 hi hz0 hz1 hz2 rfl _ (l + 1) _ rfl hown3 adk (nb n) capk ((les n (nb n)).map bv) rfl ?d2 hatk hnk ?d5 ?d6 ?d7 ?d8 ?_)
      case d2 => simp [length_les]
      case d5 => exact bv_oneCell _
      case d6 => unfold maxLen; omega
      case d7 => omega
      case d8 => exact hsz3
      intro v4 w4 hown4 hg4
      have hg'' := grown_new hg' hg4 (fun g h => (hown3.lt g h).1)
      have hfin : w4.ownsRow w.heap.size 5 1 v4 (l + 1 + nb n) ((bs ++ num n).map bv) := by
        have e : (bs ++ num n).map bv = bs.map bv ++ Value.int .u8 ((nb n : Nat) : Int) :: (les n (nb n)).map bv := by
          have e2 : bv (UInt8.ofNat (nb n)) = Value.int .u8 ((nb n : Nat) : Int) := by rw [bv, UInt8.toNat_ofNat', Nat.mod_eq_of_lt (by omega)]
          rw [List.map_append, num, List.map_cons, e2]
        rw [e]; exact hown4
      clear hown3 hg4 hown4 hatk hg'
      go_wp2
      go_ret
      exact ⟨v4, rfl, hfin, hg''⟩

theorem RNumber_any (ad : Option Addr) (l cap : Nat) (bs : List UInt8) (n : Nat) (w : World) (hn : n < 2 ^ 64) (hl : bs.length = l) (hat : At w ad (bs.map bv)) (hnil : ad = none → l = 0 ∧ cap = 0) (hb : l ≤ 1048576) :
    Calls Try.prog 37 #[.slice ad l cap, .int .u64 (n : Int)] w (MadeIs w (bs ++ num n)) :=
  (RNumber_owns ad l cap bs n w hn hl hat hnil hb).mono fun e w' ⟨v, he, hown, hg⟩ => by
    subst he
    refine made_of_owns ?_ hg
    rw [List.length_append, length_num, hl, ← Nat.add_assoc]
    exact hown

set_option maxHeartbeats 1000000 in
theorem RText_any (ad : Option Addr) (l cap : Nat) (bs : List UInt8) (s : ByteArray) (w : World) (hl : bs.length = l) (hat : At w ad (bs.map bv)) (hnil : ad = none → l = 0 ∧ cap = 0) (hb : l ≤ 1048576) (hs : s.size ≤ 1048576) :
    Calls Try.prog 38 #[.slice ad l cap, .string s] w (MadeIs w (bs ++ num s.size ++ bytesOf s)) := by
  obtain ⟨i0, hi, hz0, hz1, hz2⟩ := info_parts Try.info5
  have h8 := nb_le s.size (by omega)
  have H1 := Lib.hid (RNumber_owns ad l cap bs s.size w (by omega) hl hat hnil hb)
  have hlen : (bs ++ num s.size).length = l + 1 + nb s.size := by rw [List.length_append, length_num, hl]; omega
  generalize bs ++ num s.size = X at H1 hlen ⊢
  generalize nb s.size = k at H1 hlen h8
  have HL := Lib.hid hlen
  clear hlen hat
  go_enter Try.func38, Try.ntmps38
  go_wp2_with fail
  refine H1.out.mono ?_
  rintro e w1 ⟨v, rfl, hown, hg⟩
  have hsz := hg.size
  clear H1
  go_wp2_with (at_builtin; refine Lib.wpList_append_own_string _ rfl _ _ 25 9 rfl w.heap.size 5 i0 Try.underlying25 Try.underlying9 hi hz0 hz1 hz2 _ _ _ rfl hown s rfl ?c1 ?c2 hsz ?_)
  case c1 => unfold maxLen; omega
  case c2 => omega
  intro v3 w3 hown3 hg3 _
  have hr : MadeIs w (X ++ bytesOf s) (.returned v3) w3 := by
    refine made_of_owns ?_ (grown_new hg hg3 (fun g h => (hown.lt g h).1))
    rw [List.map_append, ← strCells_eq, List.length_append, length_bytesOf, HL.out]
    exact hown3
  clear hown hown3 hg3 hg hi
  go_wp2
  go_ret
  exact hr
end Go.Proofs.Ytlphmpimpeekcaa
