/- The document's Split of any text. -/
import Derived.Test.YtljcmlcdamlbcaaPatMay
import Derived.Test.YtljcmlcdamlbcaaFrame
namespace Go.Proofs.Ytljcmlcdamlbcaa
open Go.RowKit Go.Grommet

theorem name_info' : (Try.prog.info? 9).map (fun i => (i.zero, i.size, i.bytes)) = some (some (.string ⟨#[]⟩), 1, 16) := by kernel_rfl

/-- Where the document's Split stands: from a on no slash up to b; the pieces before a are L. -/
def RspI (T t : List UInt8) (a b m n : Nat) (L : List (List UInt8)) : Prop :=
  L.length = m ∧ (∀ x ∈ L, mayP x = true) ∧ (b ≤ n → pcs T = L ++ pcs (t.drop a) ∧ ∀ j, a ≤ j → j < b → t.getD j 0 ≠ 47) ∧ (b = n + 1 → pcs T = L)
theorem rsp_go {T t : List UInt8} {a b m n : Nat} {L : List (List UInt8)} (h : RspI T t a b m n L) (hb : b < n) (hx : t.getD b 0 ≠ 47) : RspI T t a (b + 1) m n L :=
  ⟨h.1, h.2.1, fun _ => ⟨(h.2.2.1 (by omega)).1, fun j h1 h2 => by
    rcases Nat.lt_or_ge j b with h3 | h3
    · exact (h.2.2.1 (by omega)).2 j h1 h3
    · obtain rfl : j = b := by omega
      exact hx⟩, fun e => absurd e (by omega)⟩
theorem rsp_next (T t : List UInt8) (a b m n : Nat) (p : List UInt8) (L : List (List UInt8)) (hm : mayP p = true) (h : RspI T t a b m n L) (hp : (t.drop a).take (b - a) = p ∧ pcs (t.drop a) = p :: (if b < n then pcs (t.drop (b + 1)) else [])) (hb : b ≤ n := by omega) : RspI T t (b + 1) (b + 1) (m + 1) n (L ++ [p]) := by
  have h3 := (h.2.2.1 hb).1
  rw [hp.2] at h3
  refine ⟨by rw [List.length_append, h.1]; rfl, fun x hx => ?_, fun e => ⟨?_, fun j h1 h2 => absurd h1 (by omega)⟩, fun e => ?_⟩
  · rcases List.mem_append.1 hx with hx | hx
    · exact h.2.1 x hx
    · rw [List.mem_singleton.1 hx]; exact hm
  · rw [h3, if_pos (by omega), List.append_assoc]; rfl
  · rw [h3, if_neg (by omega)]

set_option maxRecDepth 100000 in
set_option maxHeartbeats 1000000 in
theorem RSplit_long (s : ByteArray) (w : World) (h : 200 < s.size) : Calls Try.prog 8 #[.string s] w (SplitIs w (bytesOf s)) := by
  have HB := Lib.hid (splitB_long (t := bytesOf s) (by rw [length_bytesOf]; exact h))
  obtain ⟨n, hn⟩ : ∃ n, s.size = n := ⟨_, rfl⟩
  have c1 : ¬ (n : Int) < 1 := by omega
  have c1' : (200 : Int) < (n : Int) := by omega
  clear h
  go_enter Try.func8, Try.ntmps8
  go_wp2
  go_ret2
  exact splitIs_no HB.out (World.grownBy.refl _ _)
set_option maxRecDepth 100000 in
set_option maxHeartbeats 1000000 in
theorem RSplit_empty (s : ByteArray) (w : World) (h : s.size = 0) : Calls Try.prog 8 #[.string s] w (SplitIs w (bytesOf s)) := by
  have HB := Lib.hid (splitB_head (t := bytesOf s) (by rw [show bytesOf s = [] from List.eq_nil_of_length_eq_zero (by rw [length_bytesOf]; exact h)]; simp))
  obtain ⟨n, hn⟩ : ∃ n, s.size = n := ⟨_, rfl⟩
  have c1 : (n : Int) < 1 := by omega
  clear h
  go_enter Try.func8, Try.ntmps8
  go_wp2
  go_ret2
  exact splitIs_no HB.out (World.grownBy.refl _ _)
set_option maxRecDepth 100000 in
set_option maxHeartbeats 1000000 in
theorem RSplit_head (s : ByteArray) (w : World) (b : UInt8) (T : List UInt8) (hb : bytesOf s = b :: T) (h : s.size ≤ 200) (hne : b ≠ 47) : Calls Try.prog 8 #[.string s] w (SplitIs w (bytesOf s)) := by
  obtain ⟨n, hn⟩ : ∃ n, s.size = n := ⟨_, rfl⟩
  have hl := length_bytesOf s
  rw [hb, List.length_cons] at hl
  have n0 : 0 < s.size := by omega
  have hix := byte_getD s 0 n0
  rw [hb, List.getD_cons_zero] at hix
  have c1 : ¬ (n : Int) < 1 := by omega
  have c1' : ¬ (200 : Int) < (n : Int) := by omega
  have c2' : (0 : Int) < (n : Int) := by omega
  have HB := Lib.hid (splitB_head (t := bytesOf s) (by rw [hb]; intro e; exact hne (by simpa using e)))
  have q1 : (((b.toNat : Int)) != 47) = true := by
    rw [bne_iff_ne]
    intro e
    exact hne (UInt8.toNat_inj.1 (by show b.toNat = 47; omega))
  clear h hl hne hb
  go_enter Try.func8, Try.ntmps8
  go_wp2
  go_ret2
  exact splitIs_no HB.out (World.grownBy.refl _ _)
set_option maxRecDepth 100000 in
set_option maxHeartbeats 1000000 in
theorem RSplit_root (s : ByteArray) (w : World) (hb : bytesOf s = [47]) : Calls Try.prog 8 #[.string s] w (SplitIs w (bytesOf s)) := by
  obtain ⟨n, hn⟩ : ∃ n, s.size = n := ⟨_, rfl⟩
  have hl := length_bytesOf s
  rw [hb, List.length_cons, List.length_nil] at hl
  have n0 : 0 < s.size := by omega
  have hix := byte_getD s 0 n0
  rw [hb, List.getD_cons_zero] at hix
  have c1 : ¬ (n : Int) < 1 := by omega
  have c1' : ¬ (200 : Int) < (n : Int) := by omega
  have c2' : (0 : Int) < (n : Int) := by omega
  have q2 : (s.toList == [47]) = true := by rw [toListC, hb]; rfl
  have HB := Lib.hid hb
  clear hl hb
  go_enter Try.func8, Try.ntmps8
  go_wp2
  go_ret2
  exact by rw [HB.out]; exact splitIs_root (World.grownBy.refl _ _)
set_option maxRecDepth 100000 in
set_option maxHeartbeats 1000000 in
theorem RSplit_cons (s : ByteArray) (w : World) (T : List UInt8) (hb : bytesOf s = 47 :: T) (h : s.size ≤ 200) (hT : T ≠ []) : Calls Try.prog 8 #[.string s] w (SplitIs w (bytesOf s)) := by
  obtain ⟨n, hn⟩ : ∃ n, s.size = n := ⟨_, rfl⟩
  have hl := length_bytesOf s
  rw [hb, List.length_cons] at hl
  have n0 : 0 < s.size := by omega
  have hix := byte_getD s 0 n0
  rw [hb, List.getD_cons_zero] at hix
  have c1 : ¬ (n : Int) < 1 := by omega
  have c1' : ¬ (200 : Int) < (n : Int) := by omega
  have c2' : (0 : Int) < (n : Int) := by omega
  have q2 : (s.toList == [47]) = false := by rw [toListC, hb, beq_eq_false_iff_ne]; intro e; exact hT (List.cons.inj e).2
  have Hb := Lib.hid (show bytesOf s = 47 :: T ∧ T.length < 200 ∧ T ≠ [] from ⟨hb, by omega, hT⟩)
  have Hl := Lib.hid (show (bytesOf s).length = n from by rw [length_bytesOf]; exact hn)
  have HM := Lib.hid (fun (x : List UInt8) wx => RMay_any (str x) wx)
  have Hix := Lib.hid (fun k hk => byte_getD s k hk)
  have n1 : 1 ≤ n := by omega
  have n2 : n ≤ 200 := by omega
  clear h hb hl hT
  go_enter Try.func8, Try.ntmps8
  go_wp2_with fail
  go_loopw [4, 5, 6] (fun v f c wr => ∃ (ad : Option Addr) (cap : Nat) (L : List (List UInt8)) (a b m : Nat), v = .slice ad m cap ∧ f = .int .i64 (a : Int) ∧ c = .int .i64 (b : Int) ∧
    Hid (wr.ownsRow w.heap.size 9 1 (.slice ad m cap) m (L.map sv)) ∧ Hid (w.grownBy wr none) ∧ Hid (RspI T (bytesOf s) a b m n L) ∧ 1 ≤ a ∧ a ≤ b ∧ b ≤ n + 1) (fun _ _ c _ => n + 1 - (intOf c).toNat)
  case atStart => exact ⟨none, 0, [], 1, 1, 0, rfl, rfl, rfl, Lib.hid ⟨rfl, .inl ⟨rfl, rfl⟩⟩, Lib.hid (World.grownBy.refl _ _), Lib.hid ⟨rfl, by simp, fun _ => ⟨by rw [Hb.out.1]; rfl, fun j h1 h2 => absurd h1 (by omega)⟩, fun e => absurd e (by omega)⟩, by omega, by omega, by omega⟩
  case round =>
    obtain ⟨ad, cap, L, a, b, m, rfl, rfl, rfl, hR, hg, HI, a1, ab, bn⟩ := hrel
    have a0 : (0 : Int) ≤ (a : Int) := by omega
    have b0 : (0 : Int) ≤ (b : Int) := by omega
    have ab' : (a : Int) ≤ (b : Int) := by omega
    have wb : IntKind.i64.wrap ((b : Int) + 1) = (b : Int) + 1 := IntWalk.i64_in _ ⟨by omega, by omega⟩
    by_cases hle : b ≤ n
    · have hle' : (b : Int) ≤ (n : Int) := by omega
      by_cases hlt : b < n
      · have hlt' : (b : Int) < (n : Int) := by omega
        obtain ⟨x, hx⟩ : ∃ x, (bytesOf s).getD b 0 = x := ⟨_, rfl⟩
        have hix2 := Hix.out b (by omega)
        rw [hx] at hix2
        by_cases x1 : x = 47
        · have y1 : (((x.toNat : Nat) : Int) != 47) = false := by rw [x1]; rfl
          obtain ⟨p, hp⟩ : ∃ p, ((bytesOf s).drop a).take (b - a) = p := ⟨_, rfl⟩
          have Hp : Hid (((bytesOf s).drop a).take (b - a) = p ∧ pcs ((bytesOf s).drop a) = p :: (if b < n then pcs ((bytesOf s).drop (b + 1)) else [])) := Lib.hid ⟨hp, by
            rw [if_pos hlt, ← hp]
            exact pcs_slice ab (HI.out.2.2.1 hle).2 (by have := Hl.out; omega) (by rw [hx, x1])⟩
          clear hp x1 hx
          have x1 : s.extract a b = str p := by
            rw [← str_bytesOf s, extract_str, Hp.out.1]
          have HMx := Lib.hid (HM.out p wr)
          rw [show mayN (str p) = mayP p from rfl] at HMx
          have bb : (b : Int) ≤ (n : Int) := by omega
          clear c1 c1' c2'
          cases hm : mayP p with
          | false =>
            rw [hm] at HMx
            have HN : Hid (splitB (bytesOf s) = false) := Lib.hid (by
              rw [Hb.out.1]
              refine splitB_bad Hb.out.2.1 Hb.out.2.2 (x := p) ?_ hm
              rw [HI.out.2.2.1 (by omega) |>.1, Hp.out.2]
              simp)
            clear hm hR
            go_wp2_with fail
            refine HMx.out.mono ?_
            rintro e w3 ⟨rfl, rfl⟩
            go_wp2
            go_ret2
            exact splitIs_no HN.out hg.out
          | true =>
            rw [hm] at HMx
            have hm200 : m ≤ 200 := by
              have h1 := congrArg List.length (HI.out.2.2.1 (by omega)).1
              have h2 := (pcs_len T).2
              have h3 := Hb.out.2.1
              have h4 := HI.out.1
              rw [List.length_append] at h1
              omega
            obtain ⟨i0, hi, hz0, hz1, hz2⟩ := info_parts name_info'
            have HST := Lib.hid (fun (w4 : World) (ad2 : Option Addr) (cap2 : Nat) (hr4 : w4.ownsRow w.heap.size 9 1 (.slice ad2 (m + 1) cap2) (m + 1) (L.map sv ++ [.string (str p)])) (hg4 : (wr.alloc (.cells #[.string (str p)] 9)).grownBy w4 (Value.slice ad m cap).ownBlock) =>
              (⟨by rw [List.map_append]; exact hr4, grown_new (grown_trans hg.out (World.grownBy_alloc wr _ none)) hg4 (fun j e => (hR.out.lt j e).1)⟩ : w4.ownsRow w.heap.size 9 1 (.slice ad2 (m + 1) cap2) (m + 1) ((L ++ [p]).map sv) ∧ w.grownBy w4 none))
            have hbase : w.heap.size ≤ wr.heap.size := hg.out.size
            have hrr := hR.out
            have HI2 := Lib.hid (rsp_next T (bytesOf s) a b m n p L hm HI.out Hp.out)
            generalize hxs : L.map sv = xs at *
            clear hm
            go_wp2_with fail
            refine HMx.out.mono ?_
            rintro e w3 ⟨rfl, rfl⟩
            go_wp2_with (at_builtin; refine wpList_append_own _ rfl _ _ 22 rfl w.heap.size 9 i0 (.string ⟨#[]⟩) 1 16 Try.underlying22 hi hz0 hz1 hz2 rfl (by decide) _ m xs rfl (World.ownsRow.alloc hrr _) ⟨w3.heap.size, 0, none⟩ 1 1 [.string (str p)] rfl rfl ?c1 ?c2 ?c3 ?c4 ?c5 ?_)
            case c1 => exact (at_of_row (heap_alloc_new w3 _)).some
            case c2 => intro u hu; simp at hu; subst hu; rfl
            case c3 => unfold maxLen; omega
            case c4 => omega
            case c5 => simp; omega
            intro v2 w4 hr4 hg4 _
            obtain ⟨ad2, cap2, rfl, _⟩ := row_slice hr4
            obtain ⟨hr5, hg5⟩ := HST.out w4 ad2 cap2 hr4 hg4
            have HR5 := Lib.hid hr5
            have HG5 := Lib.hid hg5
            clear hr4 hg4 hr5 hg5 HST hrr hR hg
            go_wp2
            go_roundw
            case rel => exact ⟨ad2, cap2, L ++ [p], b + 1, b + 1, m + 1, by go_num, by go_num, by go_num, HR5, HG5, HI2, by omega, by omega, by omega⟩
            case measure => simp [intOf]; omega
        · have y1 : (((x.toNat : Nat) : Int) != 47) = true := by
            rw [bne_iff_ne]
            intro e
            exact x1 (UInt8.toNat_inj.1 (by show x.toNat = 47; omega))
          have HI2 := Lib.hid (rsp_go HI.out hlt (by rw [hx]; exact x1))
          clear x1 hx
          go_wp2
          go_roundw
          case rel => exact ⟨ad, cap, L, a, b + 1, m, by go_num, by go_num, by go_num, hR, hg, HI2, by omega, by omega, by omega⟩
          case measure => simp [intOf]; omega
      · have hlt' : ¬ (b : Int) < (n : Int) := by omega
        obtain ⟨p, hp⟩ : ∃ p, ((bytesOf s).drop a).take (b - a) = p := ⟨_, rfl⟩
        have Hp : Hid (((bytesOf s).drop a).take (b - a) = p ∧ pcs ((bytesOf s).drop a) = p :: (if b < n then pcs ((bytesOf s).drop (b + 1)) else [])) := Lib.hid ⟨hp, by
          rw [if_neg hlt, ← hp, List.take_of_length_le (by rw [List.length_drop]; have := Hl.out; omega)]
          exact pcs_rest (fun j h1 h2 => (HI.out.2.2.1 hle).2 j h1 (by have := Hl.out; omega))⟩
        clear hp
        have x1 : s.extract a b = str p := by
          rw [← str_bytesOf s, extract_str, Hp.out.1]
        have HMx := Lib.hid (HM.out p wr)
        rw [show mayN (str p) = mayP p from rfl] at HMx
        have bb : (b : Int) ≤ (n : Int) := by omega
        clear c1 c1' c2'
        cases hm : mayP p with
        | false =>
          rw [hm] at HMx
          have HN : Hid (splitB (bytesOf s) = false) := Lib.hid (by
            rw [Hb.out.1]
            refine splitB_bad Hb.out.2.1 Hb.out.2.2 (x := p) ?_ hm
            rw [HI.out.2.2.1 (by omega) |>.1, Hp.out.2]
            simp)
          clear hm hR
          go_wp2_with fail
          refine HMx.out.mono ?_
          rintro e w3 ⟨rfl, rfl⟩
          go_wp2
          go_ret2
          exact splitIs_no HN.out hg.out
        | true =>
          rw [hm] at HMx
          have hm200 : m ≤ 200 := by
            have h1 := congrArg List.length (HI.out.2.2.1 (by omega)).1
            have h2 := (pcs_len T).2
            have h3 := Hb.out.2.1
            have h4 := HI.out.1
            rw [List.length_append] at h1
            omega
          obtain ⟨i0, hi, hz0, hz1, hz2⟩ := info_parts name_info'
          have HST := Lib.hid (fun (w4 : World) (ad2 : Option Addr) (cap2 : Nat) (hr4 : w4.ownsRow w.heap.size 9 1 (.slice ad2 (m + 1) cap2) (m + 1) (L.map sv ++ [.string (str p)])) (hg4 : (wr.alloc (.cells #[.string (str p)] 9)).grownBy w4 (Value.slice ad m cap).ownBlock) =>
            (⟨by rw [List.map_append]; exact hr4, grown_new (grown_trans hg.out (World.grownBy_alloc wr _ none)) hg4 (fun j e => (hR.out.lt j e).1)⟩ : w4.ownsRow w.heap.size 9 1 (.slice ad2 (m + 1) cap2) (m + 1) ((L ++ [p]).map sv) ∧ w.grownBy w4 none))
          have hbase : w.heap.size ≤ wr.heap.size := hg.out.size
          have hrr := hR.out
          have HI2 := Lib.hid (rsp_next T (bytesOf s) a b m n p L hm HI.out Hp.out)
          generalize hxs : L.map sv = xs at *
          clear hm
          go_wp2_with fail
          refine HMx.out.mono ?_
          rintro e w3 ⟨rfl, rfl⟩
          go_wp2_with (at_builtin; refine wpList_append_own _ rfl _ _ 22 rfl w.heap.size 9 i0 (.string ⟨#[]⟩) 1 16 Try.underlying22 hi hz0 hz1 hz2 rfl (by decide) _ m xs rfl (World.ownsRow.alloc hrr _) ⟨w3.heap.size, 0, none⟩ 1 1 [.string (str p)] rfl rfl ?c1 ?c2 ?c3 ?c4 ?c5 ?_)
          case c1 => exact (at_of_row (heap_alloc_new w3 _)).some
          case c2 => intro u hu; simp at hu; subst hu; rfl
          case c3 => unfold maxLen; omega
          case c4 => omega
          case c5 => simp; omega
          intro v2 w4 hr4 hg4 _
          obtain ⟨ad2, cap2, rfl, _⟩ := row_slice hr4
          obtain ⟨hr5, hg5⟩ := HST.out w4 ad2 cap2 hr4 hg4
          have HR5 := Lib.hid hr5
          have HG5 := Lib.hid hg5
          clear hr4 hg4 hr5 hg5 HST hrr hR hg
          go_wp2
          go_roundw
          case rel => exact ⟨ad2, cap2, L ++ [p], b + 1, b + 1, m + 1, by go_num, by go_num, by go_num, HR5, HG5, HI2, by omega, by omega, by omega⟩
          case measure => simp [intOf]; omega
    · have hle' : ¬ (b : Int) ≤ (n : Int) := by omega
      have HE := Lib.hid (show SplitIs w (bytesOf s) (.returned (.tuple #[.slice ad m cap, .int .i64 0])) wr from by
        have hL := HI.out.2.2.2 (by omega)
        rw [Hb.out.1]
        obtain ⟨ad', cap', he, ha, _⟩ := at_of_owns hR.out
        cases he
        have h1 := HI.out.1
        exact splitIs_yes Hb.out.2.1 Hb.out.2.2 (by rw [hL]; exact HI.out.2.1) ⟨ad, cap, by rw [hL, h1], by rw [hL]; exact ha⟩ hg.out)
      go_wp2
      go_ret2
      exact HE.out

theorem RSplit_any (s : ByteArray) (w : World) : Calls Try.prog 8 #[.string s] w (SplitIs w (bytesOf s)) := by
  by_cases h : 200 < s.size
  · exact RSplit_long s w h
  · match hb : bytesOf s with
    | [] => rw [← hb]; exact RSplit_empty s w (by rw [← length_bytesOf, hb]; rfl)
    | b :: T =>
      rw [← hb]
      by_cases h1 : b = 47
      · subst h1
        by_cases h2 : T = []
        · subst h2; exact RSplit_root s w hb
        · exact RSplit_cons s w T hb (by omega) h2
      · exact RSplit_head s w b T hb (by omega) h1
end Go.Proofs.Ytljcmlcdamlbcaa
