/- LayoutNew, walked. -/
import Derived.Test.YtfmpamgflnklpaaNewMath
import Derived.Test.YtfmpamgflnklpaaSmall
namespace Go.Proofs.Ytfmpamgflnklpaa.layoutNew
open Go.RowKit Go.Grommet

set_option maxRecDepth 100000 in
set_option maxHeartbeats 400000 in
theorem walk_far (x y z : Int) (ad : Option Addr) (l cap : Nat) (w : World) (h : 1000 < l) : Calls Try.prog 8 #[.int .u16 x, .int .u16 y, .int .u16 z, .slice ad l cap] w (WorksIs w) := by
  have h1 : (1000 : Int) < (l : Int) := by omega
  go_enter Try.func8, Try.ntmps8
  go_wp2_with fail
  refine (works_any _).mono ?_
  rintro e w5 ⟨rfl, hg⟩
  go_wp2
  go_ret
  exact ⟨rfl, hg⟩

set_option maxRecDepth 100000 in
set_option maxHeartbeats 16000000 in
theorem walk_at (x y z : Nat) (hx : x < 65536) (hy : y < 65536) (hz : z < 65536) (ad : Option Addr) (l cap : Nat) (bs : List Nat) (w : World) (hW : Words w ad l bs) (hl : l ≤ 1000) (hnil : ad = none → l = 0 ∧ cap = 0) :
    Calls Try.prog 8 #[.int .u16 (x : Int), .int .u16 (y : Int), .int .u16 (z : Int), .slice ad l cap] w (WorksIs w) := by
  have HS := Lib.hid (fun wx => small_any x y z hx hy hz wx)
  have h := small_may x y z
  have hl1 : ¬ (1000 : Int) < (l : Int) := by omega
  unfold gv at HS
  obtain ⟨a, Ha⟩ : ∃ a : Nat, a = 1 + x % 4 := ⟨_, rfl⟩
  obtain ⟨b, Hb⟩ : ∃ b : Nat, b = 2 + y % 63 := ⟨_, rfl⟩
  obtain ⟨c, Hc⟩ : ∃ c : Nat, c = 2 + z % 511 := ⟨_, rfl⟩
  rw [← Ha, ← Hb, ← Hc] at HS h
  clear Ha Hb Hc
  obtain ⟨q1, q2, q3, q4, q5, q6⟩ := mayB_yes h
  have A5 := Lib.hid (fun wx => InodeMapAt_any a b c wx)
  have A6 := Lib.hid (fun wx => BlockMapAt_any a b c wx)
  have A7 := Lib.hid (fun wx => InodeAt_any a b c 1 wx)
  have A9 := Lib.hid (fun wx => Words_any a b c wx)
  obtain ⟨m, Hm⟩ : ∃ m : Nat, Hid (m = 264 + 208 * a) := ⟨_, Lib.hid rfl⟩
  obtain ⟨N, HN⟩ : ∃ N : Nat, Hid (N = 280 + 208 * a + 16 * b + 8 * c) := ⟨_, Lib.hid rfl⟩
  rw [show imapV a b c = (m : Int) from by unfold imapV; rw [if_pos h, Hm.out]; omega] at A5
  rw [show bmapV a b c = (m : Int) + 8 from by unfold bmapV; rw [if_pos h, Hm.out]; omega] at A6
  rw [show inodeV a b c 1 = (m : Int) + 32 from by unfold inodeV; rw [if_pos ⟨h, by omega, by omega⟩, Hm.out]; omega] at A7
  rw [words_pos h, show 280 + 208 * (a : Int) + 16 * (b : Int) + 8 * (c : Int) = (N : Int) from by rw [HN.out]; omega] at A9
  have HF := Lib.hid (fun wx => Format_any a b c wx h)
  have HO1 := Lib.hid (of_more a b c (264 + 208 * a) (280 + 208 * a + 16 * b + 8 * c) bs h rfl)
  have HO2 := Lib.hid (of_less a b c (264 + 208 * a) (280 + 208 * a + 16 * b + 8 * c) h rfl)
  have Hlt := Lib.hid (fmtL_lt a b c (264 + 208 * a) (280 + 208 * a + 16 * b + 8 * c) (by omega) (by omega) (by omega))
  rw [← HN.out, ← Hm.out] at HO1 HO2 Hlt
  rw [← HN.out, ← Hm.out] at HF
  have hm4 : 4 ≤ m := by rw [Hm.out]; omega
  have hmN : m + 34 ≤ N := by rw [Hm.out, HN.out]; omega
  have hN : N ≤ 6232 := by rw [HN.out]; omega
  have HZ := Lib.hid (fun k hk => cF_zero a b c m k hm4 hk (by omega) (by omega) (by omega))
  have HX := Lib.hid (fun k hk => cF_one a b c m k hm4 hk)
  have HA := Lib.hid (cF_all m N hmN)
  have HG := Lib.hid (fun i hi => get_fmtL a b c m N i hi)
  have Hv1 := Lib.hid (show fmtAt a b c m (m + 32) = 2 by unfold fmtAt; rw [if_neg (by omega), if_neg (by omega), if_neg (by omega), if_neg (by omega), if_neg (by omega), if_neg (by omega), if_pos rfl])
  have Hv2 := Lib.hid (show fmtAt a b c m (m + 33) = 1 by unfold fmtAt; rw [if_neg (by omega), if_neg (by omega), if_neg (by omega), if_neg (by omega), if_neg (by omega), if_neg (by omega), if_neg (by omega), if_pos rfl])
  have Hv3 := Lib.hid (show fmtAt a b c m m = 3 by unfold fmtAt; rw [if_neg (by omega), if_neg (by omega), if_neg (by omega), if_neg (by omega), if_pos rfl])
  have Hv4 := Lib.hid (show fmtAt a b c m (m + 8) = 1 by unfold fmtAt; rw [if_neg (by omega), if_neg (by omega), if_neg (by omega), if_neg (by omega), if_neg (by omega), if_pos rfl])
  have HLn := Lib.hid (length_fmtL a b c m N)
  generalize fmtAt a b c m = F at HZ HX HG Hv1 Hv2 Hv3 Hv4
  unfold NewWords at HF
  rw [HLn.out] at HF
  generalize fmtL a b c m N = xs at HF HO1 HO2 Hlt HG HLn
  unfold gv at A5 A6 A7 A9 HF
  clear h hx hy hz
  go_enter Try.func8, Try.ntmps8
  go_wp2_with fail
  refine (HS.out _).mono ?_
  rintro e w1 ⟨rfl, hg⟩
  have hb : (w1.alloc (.cells #[.int .i64 (a : Int), .int .i64 (b : Int), .int .i64 (c : Int)] 23)).heap[w1.heap.size]? = some (.cells #[.int .i64 (a : Int), .int .i64 (b : Int), .int .i64 (c : Int)] 23 (0, 0)) := heap_alloc_new w1 _
  have hg := grown_trans hg (World.grownBy_alloc w1 (.cells #[.int .i64 (a : Int), .int .i64 (b : Int), .int .i64 (c : Int)] 23) none)
  obtain ⟨G, HGG⟩ : ∃ G, Hid (G = w1.heap.size) := ⟨_, Lib.hid rfl⟩
  rw [← HGG.out] at hb
  go_wp2_with fail
  rw [← HGG.out]
  refine (HF.out _).mono ?_
  rintro e w2 ⟨g, rfl, hrow, hgl, hgx⟩
  have hb := (hgx.block _ (lt_of_block hb) (by simp)).trans hb
  have hg := grown_trans hg hgx
  clear hgx HGG HS hgl HF
  go_wp2_with fail
  go_loopw [11, 12] (fun f i wr => ∃ k : Nat, k ≤ N ∧ i = .int .i64 (k : Int) ∧ f = .int .i64 ((cF m k : Nat) : Int) ∧ wr.heap[G]? = some (.cells #[.int .i64 (a : Int), .int .i64 (b : Int), .int .i64 (c : Int)] 23 (0, 0)) ∧ wr.heap[g]? = some (.cells (xs.map wv).toArray 46 (0, 0)) ∧ w.grownBy wr none) (fun _ i _ => N - (intOf i).toNat)
  case atStart => exact ⟨0, Nat.zero_le _, rfl, rfl, hb, hrow, hg⟩
  case round =>
    clear hb hrow hg
    obtain ⟨k, hk, rfl, rfl, hb, hrow, hg⟩ := hrel
    have k0 : (0 : Int) ≤ (k : Int) := by omega
    have hcl := cF_le m k
    by_cases hkN : k < N
    · have hkN' : (k : Int) < (N : Int) := by omega
      have c1 : wr.cell? ⟨g, k, none⟩ = some (.int .u64 ((F k : Nat) : Int)) := row_cell hrow k _ (by rw [List.getElem?_map, HG.out k hkN]; rfl)
      by_cases hz : F k = 0
      · rw [hz] at c1
        have c1' : wr.cell? ⟨g, k, none⟩ = some (.int .u64 0) := c1
        have HC := Lib.hid (HZ.out k hz)
        clear c1 hz
        generalize cF m k = v at hcl HC ⊢
        go_wp2
        go_roundw
        case rel => exact ⟨k + 1, by omega, by go_num, by rw [HC.out], hb, hrow, hg⟩
        case measure => simp [intOf]; omega
      · have HC := Lib.hid (HX.out k hz)
        generalize F k = V at c1 hz
        have hz' : ((V : Int) != 0) = true := by simp; omega
        have hz2 : ¬ (V : Int) = 0 := by omega
        clear hz
        generalize cF m k = v at hcl HC ⊢
        go_wp2
        go_roundw
        case rel => exact ⟨k + 1, by omega, by go_num, by rw [HC.out]; go_num, hb, hrow, hg⟩
        case measure => simp [intOf]; omega
    · have hkN' : ¬ (k : Int) < (N : Int) := by omega
      obtain rfl : k = N := by omega
      have h8 : ((cF m k : Nat) : Int) = 8 := by rw [HA.out]; rfl
      rw [h8]
      clear h8 hcl hkN hk
      have hN8 : ¬ (k : Int) < 8 := by omega
      have hd8 : decide ((k : Int) < 8) = false := by simp; omega
      have f0 : wr.cell? ⟨G, 0, none⟩ = some (.int .i64 a) := by simp [World.cell?, hb]
      have f1 : wr.cell? ⟨G, 1, none⟩ = some (.int .i64 b) := by simp [World.cell?, hb]
      have f2 : wr.cell? ⟨G, 2, none⟩ = some (.int .i64 c) := by simp [World.cell?, hb]
      go_wp2_with fail
      refine (A9.out _).mono ?_
      rintro e w3 ⟨rfl, hgx⟩
      have hb := (hgx.block _ (lt_of_block hb) (by simp)).trans hb
      have hrow := (hgx.block _ (lt_of_block hrow) (by simp)).trans hrow
      have hg := grown_trans hg hgx
      clear hgx f0 f1 f2
      have f0 : w3.cell? ⟨G, 0, none⟩ = some (.int .i64 a) := by simp [World.cell?, hb]
      have f1 : w3.cell? ⟨G, 1, none⟩ = some (.int .i64 b) := by simp [World.cell?, hb]
      have f2 : w3.cell? ⟨G, 2, none⟩ = some (.int .i64 c) := by simp [World.cell?, hb]
      go_wp2_with fail
      refine (A7.out _).mono ?_
      rintro e w4 ⟨rfl, hgx⟩
      have hb := (hgx.block _ (lt_of_block hb) (by simp)).trans hb
      have hrow := (hgx.block _ (lt_of_block hrow) (by simp)).trans hrow
      have hg := grown_trans hg hgx
      clear hgx f0 f1 f2
      have f0 : w4.cell? ⟨G, 0, none⟩ = some (.int .i64 a) := by simp [World.cell?, hb]
      have f1 : w4.cell? ⟨G, 1, none⟩ = some (.int .i64 b) := by simp [World.cell?, hb]
      have f2 : w4.cell? ⟨G, 2, none⟩ = some (.int .i64 c) := by simp [World.cell?, hb]
      go_wp2_with fail
      refine (A5.out _).mono ?_
      rintro e w5 ⟨rfl, hgx⟩
      have hb := (hgx.block _ (lt_of_block hb) (by simp)).trans hb
      have hrow := (hgx.block _ (lt_of_block hrow) (by simp)).trans hrow
      have hg := grown_trans hg hgx
      clear hgx f0 f1 f2
      have f0 : w5.cell? ⟨G, 0, none⟩ = some (.int .i64 a) := by simp [World.cell?, hb]
      have f1 : w5.cell? ⟨G, 1, none⟩ = some (.int .i64 b) := by simp [World.cell?, hb]
      have f2 : w5.cell? ⟨G, 2, none⟩ = some (.int .i64 c) := by simp [World.cell?, hb]
      go_wp2_with fail
      refine (A6.out _).mono ?_
      rintro e w6 ⟨rfl, hgx⟩
      have hb := (hgx.block _ (lt_of_block hb) (by simp)).trans hb
      have hrow := (hgx.block _ (lt_of_block hrow) (by simp)).trans hrow
      have hg := grown_trans hg hgx
      clear hgx f0 f1 f2
      have c1 : w6.cell? ⟨g, m + 32, none⟩ = some (.int .u64 2) := row_cell hrow (m + 32) _ (by rw [List.getElem?_map, HG.out (m + 32) (by omega), Hv1.out]; rfl)
      have c2 : w6.cell? ⟨g, m + 33, none⟩ = some (.int .u64 1) := row_cell hrow (m + 33) _ (by rw [List.getElem?_map, HG.out (m + 33) (by omega), Hv2.out]; rfl)
      have c3 : w6.cell? ⟨g, m, none⟩ = some (.int .u64 3) := row_cell hrow m _ (by rw [List.getElem?_map, HG.out m (by omega), Hv3.out]; rfl)
      have c4 : w6.cell? ⟨g, m + 8, none⟩ = some (.int .u64 1) := row_cell hrow (m + 8) _ (by rw [List.getElem?_map, HG.out (m + 8) (by omega), Hv4.out]; rfl)
      have u1 : decide ((m : Int) + 32 < 0) = false := by simp; omega
      have u2 : decide ((m : Int) < 0) = false := by simp
      have u3 : decide ((m : Int) + 8 < 0) = false := by simp; omega
      have u4 : decide ((k : Int) ≤ (m : Int) + 32 + 1) = false := by simp; omega
      have u4' : decide ((k : Int) ≤ (m : Int) + 33) = false := by simp; omega
      have v1 : (0 : Int) ≤ (m : Int) := by omega
      have v2 : (m : Int) < (k : Int) := by omega
      have v3 : (m : Int) + 32 < (k : Int) := by omega
      have v4 : (m : Int) + 33 < (k : Int) := by omega
      have v5 : (m : Int) + 8 < (k : Int) := by omega
      have x1 : ((m : Int) + 32).toNat = m + 32 := by omega
      have x2 : ((m : Int) + 32 + 1).toNat = m + 33 := by omega
      have x3 : ((m : Int) + 33).toNat = m + 33 := by omega
      have x4 : ((m : Int) + 8).toNat = m + 8 := by omega
      have hxs : Words w6 (some ⟨g, 0, none⟩) k xs := by have := row_words hrow Hlt.out (by rw [HLn.out]; omega); rwa [HLn.out] at this
      have hbb : Words w6 ad l bs := hW.keep hg (by simp)
      have Hrow := Lib.hid hrow
      have Hbg := Lib.hid hb
      have Hhg := Lib.hid hg
      have hgs := hg.size
      clear hrow hb hg
      go_wp2_with (at_builtin; refine app64 rfl _ _ rfl w6.heap.size _ 0 [] rfl (own_lit w6 _ (Nat.le_refl _)) (some ⟨g, 0, none⟩) k k xs rfl ?p1 (by simp) ?p2 (by simp) ?_)
      case p1 => exact hxs.keep (World.grownBy_alloc w6 _ none) (by simp)
      case p2 => omega
      intro v7 w7 hown hg7
      have hown : w7.ownsRow w6.heap.size 46 1 v7 k (xs.map wv) := by simpa using hown
      have hg67 : w6.grownBy w7 none := grown_new (World.grownBy_alloc w6 (.cells #[] 46) none) hg7 (by intro q e; cases e; exact Nat.le_refl _)
      have hb7 := hW.keep (grown_trans Hhg.out hg67) (by simp)
      have hgs7 := hg67.size
      clear hg7
      try rw [Nat.zero_add]
      go_wp2_with (at_builtin; refine app64 rfl _ _ rfl w6.heap.size _ k xs rfl hown ad l cap bs rfl hb7 hnil ?r2 hgs7 ?_)
      case r2 => omega
      intro v8 w8 hown8 hg8
      have hown8 : w8.ownsRow w6.heap.size 46 1 v8 (k + l) ((xs ++ bs).map wv) := by simpa using hown8
      have hsm : ∀ n ∈ xs ++ bs, n < 18446744073709551616 := by
        intro n hn
        rcases List.mem_append.1 hn with h | h
        · exact Hlt.out n h
        · exact hW.small n h
      obtain ⟨ad8, cap8, rfl, hW8, _, _, _⟩ := words_of_own hown8 hsm (by omega)
      have hO1 := Of_any ad8 (k + l) cap8 _ w8 hW8
      rw [HO1.out] at hO1
      unfold OfIs gv at hO1
      dsimp only at hO1
      have HOf1 := Lib.hid hO1
      have hg68 := grown_new hg67 hg8 (fun q e => (hown.lt q e).1)
      clear hown hown8 hg8 hg67 hb7 hgs7 hgs hO1 hW8 hbb hsm
      go_wp2_with fail
      refine HOf1.out.mono ?_
      rintro e w9 ⟨rfl, hgx⟩
      have hg69 := grown_trans hg68 hgx
      have hga := World.grownBy_alloc w9 (.cells #[.int .i64 (a : Int), .int .i64 (b : Int), .int .i64 (c : Int)] 23) none
      have hg6a := grown_trans hg69 hga
      have hX0 := heap_alloc_new w9 (.cells #[.int .i64 (a : Int), .int .i64 (b : Int), .int .i64 (c : Int)] 23)
      have hxa := take_words (hxs.keep hg6a (by simp)) (k - 1) (by omega)
      have hO2 := Of_any (some ⟨g, 0, none⟩) (k - 1) k _ _ hxa
      rw [HO2.out] at hO2
      unfold OfIs gv at hO2
      dsimp only at hO2
      have HOf2 := Lib.hid hO2
      clear hgx hg68 hxa hO2 HOf1 hga
      have y1 : (0 : Int) ≤ (k : Int) - 1 := by omega
      have y2 : (k : Int) - 1 ≤ (k : Int) := by omega
      have y3 : ((k : Int) - 1).toNat = k - 1 := by omega
      go_wp2_with fail
      refine HOf2.out.mono ?_
      rintro e w10 ⟨rfl, hgx⟩
      have hb := ((grown_trans hg6a hgx).block _ (lt_of_block Hbg.out) (by simp)).trans Hbg.out
      have hX := (hgx.block _ (lt_of_block hX0) (by simp)).trans hX0
      have hgw := grown_trans Hhg.out (grown_trans hg6a hgx)
      have hAl := World.grownBy_alloc w10 (.cells #[.int .i64 0, .int .i64 0, .int .i64 0] 23) none
      have hb := (hAl.block _ (lt_of_block hb) (by simp)).trans hb
      have hX := (hAl.block _ (lt_of_block hX) (by simp)).trans hX
      have hgw := grown_trans hgw hAl
      have f0 := row_cell (xs := [.int .i64 (a : Int), .int .i64 (b : Int), .int .i64 (c : Int)]) hb 0 _ rfl
      have f1 := row_cell (xs := [.int .i64 (a : Int), .int .i64 (b : Int), .int .i64 (c : Int)]) hb 1 _ rfl
      have f2 := row_cell (xs := [.int .i64 (a : Int), .int .i64 (b : Int), .int .i64 (c : Int)]) hb 2 _ rfl
      have e0 := row_cell (xs := [.int .i64 (a : Int), .int .i64 (b : Int), .int .i64 (c : Int)]) hX 0 _ rfl
      have e1 := row_cell (xs := [.int .i64 (a : Int), .int .i64 (b : Int), .int .i64 (c : Int)]) hX 1 _ rfl
      have e2 := row_cell (xs := [.int .i64 (a : Int), .int .i64 (b : Int), .int .i64 (c : Int)]) hX 2 _ rfl
      clear hb hX hX0 HOf2 hgx hAl hg6a
      go_wp2_with fail
      refine (works_any _).mono ?_
      rintro e wz ⟨rfl, hgx⟩
      have hg := grown_trans hgw hgx
      go_wp2
      go_ret
      exact ⟨rfl, hg⟩

theorem walk (x y z : Int) (ad : Option Addr) (l cap : Nat) (zs : List Int) (w : World) (wx : (Lit.int .u16 x).wf = true) (wy : (Lit.int .u16 y).wf = true) (wz : (Lit.int .u16 z).wf = true) (wr : RowIn .u64 w ad l cap zs) :
    Calls Try.prog 8 #[.int .u16 x, .int .u16 y, .int .u16 z, .slice ad l cap] w (WorksIs w) := by
  have bx := bounds_u16 wx
  have by_ := bounds_u16 wy
  have bz := bounds_u16 wz
  obtain ⟨x, rfl⟩ := Int.eq_ofNat_of_zero_le bx.1
  obtain ⟨y, rfl⟩ := Int.eq_ofNat_of_zero_le by_.1
  obtain ⟨z, rfl⟩ := Int.eq_ofNat_of_zero_le bz.1
  obtain ⟨bs, hW⟩ := rowIn_words wr
  by_cases h : l ≤ 1000
  · exact walk_at x y z (by omega) (by omega) (by omega) ad l cap bs w hW h (fun e => wr.nil e)
  · exact walk_far x y z ad l cap w (by omega)
end Go.Proofs.Ytfmpamgflnklpaa.layoutNew
