/- Package request: what Get's hand does at each field. -/
import Derived.Test.YtlphmpimpeekcaaReqD
import Derived.Test.YtlphmpimpeekcaaOctL
namespace Go.Proofs.Ytlphmpimpeekcaa
open Go.RowKit Go.Grommet

/-- A tape. -/
def tapeP (g d : Nat) (all : List UInt8) (a : Nat) (t : Bool) : Pr where
  holds w F := TapeIs w 0 g d all a t ∧ F g ∧ F d ∧ ∀ i, F i → i < w.heap.size
  turn := fun h ht hn => ⟨⟨ht.obj h.1.cells (hn _ h.2.1), ht.row h.1.bytes (fun i e => by cases e; exact hn _ h.2.2.1), h.1.ne, h.1.low, h.1.place, h.1.small⟩, h.2.1, h.2.2.1, fun i hi => Nat.lt_of_lt_of_le (h.2.2.2 i hi) ht.size⟩
  old := fun h => h.2.2.2
theorem own_tape {w0 w : World} {Ps : List Pr} (h : Grommet.Own w0 w Ps) (l : Nat) {g d : Nat} {all : List UInt8} {a : Nat} {t : Bool} (hl : Ps[l]? = some (tapeP g d all a t)) :
    TapeIs w 0 g d all a t ∧ ∀ w' a' t', TapeIs w' 0 g d all a' t' → w.grownBy w' (some g) → Grommet.Own w0 w' (Ps.set l (tapeP g d all a' t')) := by
  obtain ⟨F, ⟨h1, h2, h3, h4⟩, ht⟩ := h.take l hl
  exact ⟨h1, fun w' a' t' k hg => ht _ _ ⟨F, ⟨k, h2, h3, fun i hi => Nat.lt_of_lt_of_le (h4 i hi) hg.size⟩, fun i hi => .inl hi, Turn.of hg (fun i e => by cases e; exact h2)⟩⟩

structure GetS where
  r : Rq
  a : Nat
  t : Bool
  b : Bool
def zeroRq : Rq := ⟨0, 0, 0, 0, 0, ⟨#[]⟩, ⟨#[]⟩, ⟨#[]⟩⟩
def gnumF (TB I : Nat) : Value := .func (.func 20) #[] #[.pointer (some ⟨TB, 0, none⟩), .pointer (some ⟨I, 0, none⟩)]
def gtxtF (TB : Nat) : Value := .func (.func 22) #[] #[.pointer (some ⟨TB, 0, none⟩)]
/-- What Get works with. -/
def GS (Z g d TB I J R : Nat) (all : List UInt8) (s : GetS) : List Pr :=
  [boxP Z 24 zeroRq.cs, tapeP g d all s.a s.t, boxP TB 41 #[.pointer (some ⟨g, 0, none⟩)], boxP I 4 #[.bool s.b], boxP J 47 #[gnumF TB I, gtxtF TB], boxP R 24 s.r.cs]
theorem numberR_lt (all : List UInt8) (a : Nat) (t : Bool) : (numberR all a t).1 < 2 ^ 64 := by
  unfold numberR
  split
  · show 0 < _; decide
  · split
    · show 0 < _; decide
    · rename_i n k h; exact (numAt_lt _ _ _ h).1

set_option maxRecDepth 100000 in
set_option maxHeartbeats 1000000 in
theorem getNum (Z g d TB I J R n m : Nat) (all : List UInt8) (s : GetS) (w0 w : World) (Qs : List Pr) (h : Grommet.Own w0 w (GS Z g d TB I J R all s ++ Qs)) :
    Calls Try.prog 20 #[.int .u64 (n : Int), .int .u64 (m : Int), .pointer (some ⟨TB, 0, none⟩), .pointer (some ⟨I, 0, none⟩)] w fun e w' => e = .returned (.int .u64 ((numberR all s.a s.t).1 : Int)) ∧
      Grommet.Own w0 w' (GS Z g d TB I J R all { s with a := (numberR all s.a s.t).2.1, t := (numberR all s.a s.t).2.2, b := s.b && decide ((numberR all s.a s.t).1 ≤ m) } ++ Qs) := by
  obtain ⟨hT, hst⟩ := own_tape h 1 rfl
  have c1 := (own_cellB h 2 rfl 0 (u := .pointer (some ⟨g, 0, none⟩)) rfl).1
  have HN := Lib.hid (Number_step_any 0 g d all s.a s.t w hT)
  obtain ⟨x, hx⟩ : ∃ x, numberR all s.a s.t = x := ⟨_, rfl⟩
  rw [hx] at HN ⊢
  obtain ⟨v, a', t'⟩ := x
  obtain ⟨r, a, t, b⟩ := s
  have HS := Lib.hid hst
  clear hst hT hx h
  simp only at HN HS ⊢
  go_enter Try.func20, Try.ntmps20
  go_wp2_with fail
  refine HN.out.mono ?_
  rintro e w1 ⟨rfl, hT1, hg⟩
  have hO := HS.out w1 a' t' hT1 hg
  obtain ⟨c3, z3⟩ := own_cellB hO 3 rfl 0 (u := .bool b) rfl
  have hF := Lib.hid (own_put hO 3 rfl 0 (.bool (b && decide (v ≤ m))))
  clear HN HS hT1 hg hO c1
  cases b
  · simp only [Bool.false_and] at hF ⊢
    go_wp2
    go_ret
    exact ⟨rfl, hF.out⟩
  · simp only [Bool.true_and] at hF ⊢
    go_wp2
    go_ret
    exact ⟨rfl, hF.out⟩

set_option maxRecDepth 100000 in
set_option maxHeartbeats 1000000 in
theorem getTxt (Z g d TB I J R m : Nat) (hm : m < 1000000) (x0 : ByteArray) (all : List UInt8) (s : GetS) (w0 w : World) (Qs : List Pr) (h : Grommet.Own w0 w (GS Z g d TB I J R all s ++ Qs)) :
    Calls Try.prog 22 #[.string x0, .int .i64 (m : Int), .pointer (some ⟨TB, 0, none⟩)] w fun e w' => e = .returned (.string (str (textR all s.a s.t (m : Int)).1)) ∧
      Grommet.Own w0 w' (GS Z g d TB I J R all { s with a := (textR all s.a s.t (m : Int)).2.1, t := (textR all s.a s.t (m : Int)).2.2 } ++ Qs) := by
  obtain ⟨hT, hst⟩ := own_tape h 1 rfl
  have c1 := (own_cellB h 2 rfl 0 (u := .pointer (some ⟨g, 0, none⟩)) rfl).1
  have HN := Lib.hid (Text_step_any 0 g d all s.a s.t (m : Int) w (by omega) hT)
  obtain ⟨x, hx⟩ : ∃ x, textR all s.a s.t (m : Int) = x := ⟨_, rfl⟩
  rw [hx] at HN ⊢
  obtain ⟨v, a', t'⟩ := x
  obtain ⟨r, a, t, b⟩ := s
  have HS := Lib.hid hst
  clear hst hT hx h hm
  simp only at HN HS ⊢
  go_enter Try.func22, Try.ntmps22
  go_wp2_with fail
  refine HN.out.mono ?_
  rintro e w1 ⟨rfl, hT1, hg⟩
  have hO := Lib.hid (HS.out w1 a' t' hT1 hg)
  clear HN HS hT1 hg c1
  go_wp2
  go_ret
  exact ⟨rfl, hO.out⟩

/-- A field that is got. -/
def getF (all : List UInt8) (s : GetS) : Fd → GetS
  | .path => { r := { s.r with p := str (textR all s.a s.t 200).1 }, a := (textR all s.a s.t 200).2.1, t := (textR all s.a s.t 200).2.2, b := s.b }
  | .flags => { r := { s.r with fl := (numberR all s.a s.t).1 % 256 }, a := (numberR all s.a s.t).2.1, t := (numberR all s.a s.t).2.2, b := s.b && decide ((numberR all s.a s.t).1 ≤ 7) }
  | .fd => { r := { s.r with fd := (numberR all s.a s.t).1 }, a := (numberR all s.a s.t).2.1, t := (numberR all s.a s.t).2.2, b := s.b && decide ((numberR all s.a s.t).1 ≤ 18446744073709551615) }
  | .size => { r := { s.r with sz := (numberR all s.a s.t).1 }, a := (numberR all s.a s.t).2.1, t := (numberR all s.a s.t).2.2, b := s.b && decide ((numberR all s.a s.t).1 ≤ 18446744073709551615) }
  | .data => { r := { s.r with d := str (textR all s.a s.t 128).1 }, a := (textR all s.a s.t 128).2.1, t := (textR all s.a s.t 128).2.2, b := s.b }
  | .at => { r := { s.r with at_ := (numberR all s.a s.t).1 }, a := (numberR all s.a s.t).2.1, t := (numberR all s.a s.t).2.2, b := s.b && decide ((numberR all s.a s.t).1 ≤ 18446744073709551615) }
  | .to => { r := { s.r with t := str (textR all s.a s.t 200).1 }, a := (textR all s.a s.t 200).2.1, t := (textR all s.a s.t 200).2.2, b := s.b }

set_option maxRecDepth 100000 in
set_option maxHeartbeats 1000000 in
theorem get_path (Z g d TB I J R : Nat) (all : List UInt8) (s : GetS) (_hr : s.r.Ok) (w0 w : World) (Qs : List Pr) (h : Grommet.Own w0 w (GS Z g d TB I J R all s ++ Qs)) :
    Calls Try.prog 47 #[.pointer (some ⟨R, 0, none⟩), .agg #[gnumF TB I, gtxtF TB]] w fun e w' => (∃ v, e = .returned v) ∧ Grommet.Own w0 w' (GS Z g d TB I J R all (getF all s .path) ++ Qs) := by
  have hO1 : Grommet.Own w0 (w.alloc (.cells #[gnumF TB I, gtxtF TB] 47)) (GS Z g d TB I J R all s ++ (Qs ++ [boxP w.heap.size 47 #[gnumF TB I, gtxtF TB]])) := by
    have := h.addBox 47 #[gnumF TB I, gtxtF TB]; rw [List.append_assoc] at this; exact this
  obtain ⟨H, hH⟩ : ∃ H, w.heap.size = H := ⟨_, rfl⟩
  rw [hH] at hO1
  obtain ⟨c1, _⟩ := own_cellB hO1 (GS Z g d TB I J R all s ++ Qs).length (X := H) (T := 47) (cs := #[gnumF TB I, gtxtF TB]) (by rw [← List.append_assoc]; exact lastQ _ _) 1 rfl
  obtain ⟨c2, _⟩ := own_cellB hO1 5 rfl 5 (u := .string s.r.p) rfl
  have HC := getTxt Z g d TB I J R 200 (by decide) s.r.p all s w0 _ _ (hO1.quiet (grown_drew (World.grownBy.refl _ none)))
  obtain ⟨xx, hxx⟩ : ∃ xx, textR all s.a s.t ((200 : Nat) : Int) = xx := ⟨_, rfl⟩
  have hG : getF all s .path = { r := { s.r with p := str xx.1 }, a := xx.2.1, t := xx.2.2, b := s.b } := by rw [← hxx]; rfl
  rw [hG]
  rw [hxx] at HC
  obtain ⟨vv, aa, tt⟩ := xx
  simp only at HC ⊢
  have HS := Lib.hid (fun wx (hO : Grommet.Own w0 wx (GS Z g d TB I J R all { s with a := aa, t := tt } ++ (Qs ++ [boxP H 47 #[gnumF TB I, gtxtF TB]]))) => (show wx.cell? ⟨R, 5, none⟩ = some (.string s.r.p) ∧ wx.frozen? ⟨R, 5, none⟩ = false ∧ Grommet.Own w0 (wx.setCell ⟨R, 5, none⟩ (.string (str vv))) (GS Z g d TB I J R all { r := { s.r with p := str vv }, a := aa, t := tt, b := s.b } ++ Qs) by
    obtain ⟨a1, a2⟩ := own_cellB hO 5 rfl 5 (u := .string s.r.p) rfl
    have a3 := own_put hO 5 rfl 5 (.string (str vv))
    have a4 : Grommet.Own w0 (wx.setCell ⟨R, 5, none⟩ (.string (str vv))) ((GS Z g d TB I J R all { r := { s.r with p := str vv }, a := aa, t := tt, b := s.b } ++ Qs) ++ [boxP H 47 #[gnumF TB I, gtxtF TB]]) := by rw [List.append_assoc]; exact a3
    exact ⟨a1, a2, a4.less⟩))
  have HC := Lib.hid HC
  unfold gnumF gtxtF at *
  clear h hO1 hG hxx _hr
  go_enter Try.func47, Try.ntmps47
  go_upto_region 1 with fail
  go_region_law (go_simp; refine HC.out.mono ?_; rintro e w3 ⟨rfl, hO3⟩; obtain ⟨d1, d2, d3⟩ := HS.out w3 hO3; replace d3 := Lib.hid d3; clear HS hO3)
  all_goals go_wp2
  all_goals go_end0
  all_goals exact ⟨⟨_, rfl⟩, d3.out⟩

set_option maxRecDepth 100000 in
set_option maxHeartbeats 1000000 in
theorem get_flags (Z g d TB I J R : Nat) (all : List UInt8) (s : GetS) (hr : s.r.Ok) (w0 w : World) (Qs : List Pr) (h : Grommet.Own w0 w (GS Z g d TB I J R all s ++ Qs)) :
    Calls Try.prog 48 #[.pointer (some ⟨R, 0, none⟩), .agg #[gnumF TB I, gtxtF TB]] w fun e w' => (∃ v, e = .returned v) ∧ Grommet.Own w0 w' (GS Z g d TB I J R all (getF all s .flags) ++ Qs) := by
  have wf : IntKind.u64.wrap (s.r.fl : Int) = (s.r.fl : Int) := IntWalk.u64_in _ ⟨by omega, by have := hr.fl; omega⟩
  have hO1 : Grommet.Own w0 (w.alloc (.cells #[gnumF TB I, gtxtF TB] 47)) (GS Z g d TB I J R all s ++ (Qs ++ [boxP w.heap.size 47 #[gnumF TB I, gtxtF TB]])) := by
    have := h.addBox 47 #[gnumF TB I, gtxtF TB]; rw [List.append_assoc] at this; exact this
  obtain ⟨H, hH⟩ : ∃ H, w.heap.size = H := ⟨_, rfl⟩
  rw [hH] at hO1
  obtain ⟨c1, _⟩ := own_cellB hO1 (GS Z g d TB I J R all s ++ Qs).length (X := H) (T := 47) (cs := #[gnumF TB I, gtxtF TB]) (by rw [← List.append_assoc]; exact lastQ _ _) 0 rfl
  obtain ⟨c2, _⟩ := own_cellB hO1 5 rfl 1 (u := .int .u8 (s.r.fl : Int)) rfl
  have HC := getNum Z g d TB I J R s.r.fl 7 all s w0 _ _ (hO1.quiet (grown_drew (World.grownBy.refl _ none)))
  obtain ⟨xx, hxx⟩ : ∃ xx, numberR all s.a s.t = xx := ⟨_, rfl⟩
  have hG : getF all s .flags = { r := { s.r with fl := xx.1 % 256 }, a := xx.2.1, t := xx.2.2, b := s.b && decide (xx.1 ≤ 7) } := by rw [← hxx]; rfl
  rw [hG]
  rw [hxx] at HC
  obtain ⟨vv, aa, tt⟩ := xx
  simp only at HC ⊢
  have wf8 : IntKind.u8.wrap (vv : Int) = ((vv % 256 : Nat) : Int) := by simp [IntKind.wrap, IntKind.signed, IntKind.bits]
  have HS := Lib.hid (fun wx (hO : Grommet.Own w0 wx (GS Z g d TB I J R all { s with a := aa, t := tt, b := s.b && decide (vv ≤ 7) } ++ (Qs ++ [boxP H 47 #[gnumF TB I, gtxtF TB]]))) => (show wx.cell? ⟨R, 1, none⟩ = some (.int .u8 (s.r.fl : Int)) ∧ wx.frozen? ⟨R, 1, none⟩ = false ∧ Grommet.Own w0 (wx.setCell ⟨R, 1, none⟩ (.int .u8 ((vv % 256 : Nat) : Int))) (GS Z g d TB I J R all { r := { s.r with fl := vv % 256 }, a := aa, t := tt, b := s.b && decide (vv ≤ 7) } ++ Qs) by
    obtain ⟨a1, a2⟩ := own_cellB hO 5 rfl 1 (u := .int .u8 (s.r.fl : Int)) rfl
    have a3 := own_put hO 5 rfl 1 (.int .u8 ((vv % 256 : Nat) : Int))
    have a4 : Grommet.Own w0 (wx.setCell ⟨R, 1, none⟩ (.int .u8 ((vv % 256 : Nat) : Int))) ((GS Z g d TB I J R all { r := { s.r with fl := vv % 256 }, a := aa, t := tt, b := s.b && decide (vv ≤ 7) } ++ Qs) ++ [boxP H 47 #[gnumF TB I, gtxtF TB]]) := by rw [List.append_assoc]; exact a3
    exact ⟨a1, a2, a4.less⟩))
  have HC := Lib.hid HC
  unfold gnumF gtxtF at *
  clear h hO1 hG hxx hr
  go_enter Try.func48, Try.ntmps48
  go_upto_region 1 with fail
  go_region_law (go_simp; refine HC.out.mono ?_; rintro e w3 ⟨rfl, hO3⟩; obtain ⟨d1, d2, d3⟩ := HS.out w3 hO3; replace d3 := Lib.hid d3; clear HS hO3)
  all_goals go_wp2
  all_goals go_end0
  all_goals exact ⟨⟨_, rfl⟩, d3.out⟩

set_option maxRecDepth 100000 in
set_option maxHeartbeats 1000000 in
theorem get_fd (Z g d TB I J R : Nat) (all : List UInt8) (s : GetS) (_hr : s.r.Ok) (w0 w : World) (Qs : List Pr) (h : Grommet.Own w0 w (GS Z g d TB I J R all s ++ Qs)) :
    Calls Try.prog 49 #[.pointer (some ⟨R, 0, none⟩), .agg #[gnumF TB I, gtxtF TB]] w fun e w' => (∃ v, e = .returned v) ∧ Grommet.Own w0 w' (GS Z g d TB I J R all (getF all s .fd) ++ Qs) := by
  have hO1 : Grommet.Own w0 (w.alloc (.cells #[gnumF TB I, gtxtF TB] 47)) (GS Z g d TB I J R all s ++ (Qs ++ [boxP w.heap.size 47 #[gnumF TB I, gtxtF TB]])) := by
    have := h.addBox 47 #[gnumF TB I, gtxtF TB]; rw [List.append_assoc] at this; exact this
  obtain ⟨H, hH⟩ : ∃ H, w.heap.size = H := ⟨_, rfl⟩
  rw [hH] at hO1
  obtain ⟨c1, _⟩ := own_cellB hO1 (GS Z g d TB I J R all s ++ Qs).length (X := H) (T := 47) (cs := #[gnumF TB I, gtxtF TB]) (by rw [← List.append_assoc]; exact lastQ _ _) 0 rfl
  obtain ⟨c2, _⟩ := own_cellB hO1 5 rfl 2 (u := .int .u64 (s.r.fd : Int)) rfl
  have HC := getNum Z g d TB I J R s.r.fd 18446744073709551615 all s w0 _ _ (hO1.quiet (grown_drew (World.grownBy.refl _ none)))
  obtain ⟨xx, hxx⟩ : ∃ xx, numberR all s.a s.t = xx := ⟨_, rfl⟩
  have hG : getF all s .fd = { r := { s.r with fd := xx.1 }, a := xx.2.1, t := xx.2.2, b := s.b && decide (xx.1 ≤ 18446744073709551615) } := by rw [← hxx]; rfl
  rw [hG]
  rw [hxx] at HC
  obtain ⟨vv, aa, tt⟩ := xx
  simp only at HC ⊢
  have HS := Lib.hid (fun wx (hO : Grommet.Own w0 wx (GS Z g d TB I J R all { s with a := aa, t := tt, b := s.b && decide (vv ≤ 18446744073709551615) } ++ (Qs ++ [boxP H 47 #[gnumF TB I, gtxtF TB]]))) => (show wx.cell? ⟨R, 2, none⟩ = some (.int .u64 (s.r.fd : Int)) ∧ wx.frozen? ⟨R, 2, none⟩ = false ∧ Grommet.Own w0 (wx.setCell ⟨R, 2, none⟩ (.int .u64 (vv : Int))) (GS Z g d TB I J R all { r := { s.r with fd := vv }, a := aa, t := tt, b := s.b && decide (vv ≤ 18446744073709551615) } ++ Qs) by
    obtain ⟨a1, a2⟩ := own_cellB hO 5 rfl 2 (u := .int .u64 (s.r.fd : Int)) rfl
    have a3 := own_put hO 5 rfl 2 (.int .u64 (vv : Int))
    have a4 : Grommet.Own w0 (wx.setCell ⟨R, 2, none⟩ (.int .u64 (vv : Int))) ((GS Z g d TB I J R all { r := { s.r with fd := vv }, a := aa, t := tt, b := s.b && decide (vv ≤ 18446744073709551615) } ++ Qs) ++ [boxP H 47 #[gnumF TB I, gtxtF TB]]) := by rw [List.append_assoc]; exact a3
    exact ⟨a1, a2, a4.less⟩))
  have HC := Lib.hid HC
  unfold gnumF gtxtF at *
  clear h hO1 hG hxx _hr
  go_enter Try.func49, Try.ntmps49
  go_upto_region 1 with fail
  go_region_law (go_simp; refine HC.out.mono ?_; rintro e w3 ⟨rfl, hO3⟩; obtain ⟨d1, d2, d3⟩ := HS.out w3 hO3; replace d3 := Lib.hid d3; clear HS hO3)
  all_goals go_wp2
  all_goals go_end0
  all_goals exact ⟨⟨_, rfl⟩, d3.out⟩

set_option maxRecDepth 100000 in
set_option maxHeartbeats 1000000 in
theorem get_size (Z g d TB I J R : Nat) (all : List UInt8) (s : GetS) (_hr : s.r.Ok) (w0 w : World) (Qs : List Pr) (h : Grommet.Own w0 w (GS Z g d TB I J R all s ++ Qs)) :
    Calls Try.prog 50 #[.pointer (some ⟨R, 0, none⟩), .agg #[gnumF TB I, gtxtF TB]] w fun e w' => (∃ v, e = .returned v) ∧ Grommet.Own w0 w' (GS Z g d TB I J R all (getF all s .size) ++ Qs) := by
  have hO1 : Grommet.Own w0 (w.alloc (.cells #[gnumF TB I, gtxtF TB] 47)) (GS Z g d TB I J R all s ++ (Qs ++ [boxP w.heap.size 47 #[gnumF TB I, gtxtF TB]])) := by
    have := h.addBox 47 #[gnumF TB I, gtxtF TB]; rw [List.append_assoc] at this; exact this
  obtain ⟨H, hH⟩ : ∃ H, w.heap.size = H := ⟨_, rfl⟩
  rw [hH] at hO1
  obtain ⟨c1, _⟩ := own_cellB hO1 (GS Z g d TB I J R all s ++ Qs).length (X := H) (T := 47) (cs := #[gnumF TB I, gtxtF TB]) (by rw [← List.append_assoc]; exact lastQ _ _) 0 rfl
  obtain ⟨c2, _⟩ := own_cellB hO1 5 rfl 4 (u := .int .u64 (s.r.sz : Int)) rfl
  have HC := getNum Z g d TB I J R s.r.sz 18446744073709551615 all s w0 _ _ (hO1.quiet (grown_drew (World.grownBy.refl _ none)))
  obtain ⟨xx, hxx⟩ : ∃ xx, numberR all s.a s.t = xx := ⟨_, rfl⟩
  have hG : getF all s .size = { r := { s.r with sz := xx.1 }, a := xx.2.1, t := xx.2.2, b := s.b && decide (xx.1 ≤ 18446744073709551615) } := by rw [← hxx]; rfl
  rw [hG]
  rw [hxx] at HC
  obtain ⟨vv, aa, tt⟩ := xx
  simp only at HC ⊢
  have HS := Lib.hid (fun wx (hO : Grommet.Own w0 wx (GS Z g d TB I J R all { s with a := aa, t := tt, b := s.b && decide (vv ≤ 18446744073709551615) } ++ (Qs ++ [boxP H 47 #[gnumF TB I, gtxtF TB]]))) => (show wx.cell? ⟨R, 4, none⟩ = some (.int .u64 (s.r.sz : Int)) ∧ wx.frozen? ⟨R, 4, none⟩ = false ∧ Grommet.Own w0 (wx.setCell ⟨R, 4, none⟩ (.int .u64 (vv : Int))) (GS Z g d TB I J R all { r := { s.r with sz := vv }, a := aa, t := tt, b := s.b && decide (vv ≤ 18446744073709551615) } ++ Qs) by
    obtain ⟨a1, a2⟩ := own_cellB hO 5 rfl 4 (u := .int .u64 (s.r.sz : Int)) rfl
    have a3 := own_put hO 5 rfl 4 (.int .u64 (vv : Int))
    have a4 : Grommet.Own w0 (wx.setCell ⟨R, 4, none⟩ (.int .u64 (vv : Int))) ((GS Z g d TB I J R all { r := { s.r with sz := vv }, a := aa, t := tt, b := s.b && decide (vv ≤ 18446744073709551615) } ++ Qs) ++ [boxP H 47 #[gnumF TB I, gtxtF TB]]) := by rw [List.append_assoc]; exact a3
    exact ⟨a1, a2, a4.less⟩))
  have HC := Lib.hid HC
  unfold gnumF gtxtF at *
  clear h hO1 hG hxx _hr
  go_enter Try.func50, Try.ntmps50
  go_upto_region 1 with fail
  go_region_law (go_simp; refine HC.out.mono ?_; rintro e w3 ⟨rfl, hO3⟩; obtain ⟨d1, d2, d3⟩ := HS.out w3 hO3; replace d3 := Lib.hid d3; clear HS hO3)
  all_goals go_wp2
  all_goals go_end0
  all_goals exact ⟨⟨_, rfl⟩, d3.out⟩

set_option maxRecDepth 100000 in
set_option maxHeartbeats 1000000 in
theorem get_data (Z g d TB I J R : Nat) (all : List UInt8) (s : GetS) (_hr : s.r.Ok) (w0 w : World) (Qs : List Pr) (h : Grommet.Own w0 w (GS Z g d TB I J R all s ++ Qs)) :
    Calls Try.prog 51 #[.pointer (some ⟨R, 0, none⟩), .agg #[gnumF TB I, gtxtF TB]] w fun e w' => (∃ v, e = .returned v) ∧ Grommet.Own w0 w' (GS Z g d TB I J R all (getF all s .data) ++ Qs) := by
  have hO1 : Grommet.Own w0 (w.alloc (.cells #[gnumF TB I, gtxtF TB] 47)) (GS Z g d TB I J R all s ++ (Qs ++ [boxP w.heap.size 47 #[gnumF TB I, gtxtF TB]])) := by
    have := h.addBox 47 #[gnumF TB I, gtxtF TB]; rw [List.append_assoc] at this; exact this
  obtain ⟨H, hH⟩ : ∃ H, w.heap.size = H := ⟨_, rfl⟩
  rw [hH] at hO1
  obtain ⟨c1, _⟩ := own_cellB hO1 (GS Z g d TB I J R all s ++ Qs).length (X := H) (T := 47) (cs := #[gnumF TB I, gtxtF TB]) (by rw [← List.append_assoc]; exact lastQ _ _) 1 rfl
  obtain ⟨c2, _⟩ := own_cellB hO1 5 rfl 7 (u := .string s.r.d) rfl
  have HC := getTxt Z g d TB I J R 128 (by decide) s.r.d all s w0 _ _ (hO1.quiet (grown_drew (World.grownBy.refl _ none)))
  obtain ⟨xx, hxx⟩ : ∃ xx, textR all s.a s.t ((128 : Nat) : Int) = xx := ⟨_, rfl⟩
  have hG : getF all s .data = { r := { s.r with d := str xx.1 }, a := xx.2.1, t := xx.2.2, b := s.b } := by rw [← hxx]; rfl
  rw [hG]
  rw [hxx] at HC
  obtain ⟨vv, aa, tt⟩ := xx
  simp only at HC ⊢
  have HS := Lib.hid (fun wx (hO : Grommet.Own w0 wx (GS Z g d TB I J R all { s with a := aa, t := tt } ++ (Qs ++ [boxP H 47 #[gnumF TB I, gtxtF TB]]))) => (show wx.cell? ⟨R, 7, none⟩ = some (.string s.r.d) ∧ wx.frozen? ⟨R, 7, none⟩ = false ∧ Grommet.Own w0 (wx.setCell ⟨R, 7, none⟩ (.string (str vv))) (GS Z g d TB I J R all { r := { s.r with d := str vv }, a := aa, t := tt, b := s.b } ++ Qs) by
    obtain ⟨a1, a2⟩ := own_cellB hO 5 rfl 7 (u := .string s.r.d) rfl
    have a3 := own_put hO 5 rfl 7 (.string (str vv))
    have a4 : Grommet.Own w0 (wx.setCell ⟨R, 7, none⟩ (.string (str vv))) ((GS Z g d TB I J R all { r := { s.r with d := str vv }, a := aa, t := tt, b := s.b } ++ Qs) ++ [boxP H 47 #[gnumF TB I, gtxtF TB]]) := by rw [List.append_assoc]; exact a3
    exact ⟨a1, a2, a4.less⟩))
  have HC := Lib.hid HC
  unfold gnumF gtxtF at *
  clear h hO1 hG hxx _hr
  go_enter Try.func51, Try.ntmps51
  go_upto_region 1 with fail
  go_region_law (go_simp; refine HC.out.mono ?_; rintro e w3 ⟨rfl, hO3⟩; obtain ⟨d1, d2, d3⟩ := HS.out w3 hO3; replace d3 := Lib.hid d3; clear HS hO3)
  all_goals go_wp2
  all_goals go_end0
  all_goals exact ⟨⟨_, rfl⟩, d3.out⟩

set_option maxRecDepth 100000 in
set_option maxHeartbeats 1000000 in
theorem get_at (Z g d TB I J R : Nat) (all : List UInt8) (s : GetS) (_hr : s.r.Ok) (w0 w : World) (Qs : List Pr) (h : Grommet.Own w0 w (GS Z g d TB I J R all s ++ Qs)) :
    Calls Try.prog 52 #[.pointer (some ⟨R, 0, none⟩), .agg #[gnumF TB I, gtxtF TB]] w fun e w' => (∃ v, e = .returned v) ∧ Grommet.Own w0 w' (GS Z g d TB I J R all (getF all s .at) ++ Qs) := by
  have hO1 : Grommet.Own w0 (w.alloc (.cells #[gnumF TB I, gtxtF TB] 47)) (GS Z g d TB I J R all s ++ (Qs ++ [boxP w.heap.size 47 #[gnumF TB I, gtxtF TB]])) := by
    have := h.addBox 47 #[gnumF TB I, gtxtF TB]; rw [List.append_assoc] at this; exact this
  obtain ⟨H, hH⟩ : ∃ H, w.heap.size = H := ⟨_, rfl⟩
  rw [hH] at hO1
  obtain ⟨c1, _⟩ := own_cellB hO1 (GS Z g d TB I J R all s ++ Qs).length (X := H) (T := 47) (cs := #[gnumF TB I, gtxtF TB]) (by rw [← List.append_assoc]; exact lastQ _ _) 0 rfl
  obtain ⟨c2, _⟩ := own_cellB hO1 5 rfl 3 (u := .int .u64 (s.r.at_ : Int)) rfl
  have HC := getNum Z g d TB I J R s.r.at_ 18446744073709551615 all s w0 _ _ (hO1.quiet (grown_drew (World.grownBy.refl _ none)))
  obtain ⟨xx, hxx⟩ : ∃ xx, numberR all s.a s.t = xx := ⟨_, rfl⟩
  have hG : getF all s .at = { r := { s.r with at_ := xx.1 }, a := xx.2.1, t := xx.2.2, b := s.b && decide (xx.1 ≤ 18446744073709551615) } := by rw [← hxx]; rfl
  rw [hG]
  rw [hxx] at HC
  obtain ⟨vv, aa, tt⟩ := xx
  simp only at HC ⊢
  have HS := Lib.hid (fun wx (hO : Grommet.Own w0 wx (GS Z g d TB I J R all { s with a := aa, t := tt, b := s.b && decide (vv ≤ 18446744073709551615) } ++ (Qs ++ [boxP H 47 #[gnumF TB I, gtxtF TB]]))) => (show wx.cell? ⟨R, 3, none⟩ = some (.int .u64 (s.r.at_ : Int)) ∧ wx.frozen? ⟨R, 3, none⟩ = false ∧ Grommet.Own w0 (wx.setCell ⟨R, 3, none⟩ (.int .u64 (vv : Int))) (GS Z g d TB I J R all { r := { s.r with at_ := vv }, a := aa, t := tt, b := s.b && decide (vv ≤ 18446744073709551615) } ++ Qs) by
    obtain ⟨a1, a2⟩ := own_cellB hO 5 rfl 3 (u := .int .u64 (s.r.at_ : Int)) rfl
    have a3 := own_put hO 5 rfl 3 (.int .u64 (vv : Int))
    have a4 : Grommet.Own w0 (wx.setCell ⟨R, 3, none⟩ (.int .u64 (vv : Int))) ((GS Z g d TB I J R all { r := { s.r with at_ := vv }, a := aa, t := tt, b := s.b && decide (vv ≤ 18446744073709551615) } ++ Qs) ++ [boxP H 47 #[gnumF TB I, gtxtF TB]]) := by rw [List.append_assoc]; exact a3
    exact ⟨a1, a2, a4.less⟩))
  have HC := Lib.hid HC
  unfold gnumF gtxtF at *
  clear h hO1 hG hxx _hr
  go_enter Try.func52, Try.ntmps52
  go_upto_region 1 with fail
  go_region_law (go_simp; refine HC.out.mono ?_; rintro e w3 ⟨rfl, hO3⟩; obtain ⟨d1, d2, d3⟩ := HS.out w3 hO3; replace d3 := Lib.hid d3; clear HS hO3)
  all_goals go_wp2
  all_goals go_end0
  all_goals exact ⟨⟨_, rfl⟩, d3.out⟩

set_option maxRecDepth 100000 in
set_option maxHeartbeats 1000000 in
theorem get_to (Z g d TB I J R : Nat) (all : List UInt8) (s : GetS) (_hr : s.r.Ok) (w0 w : World) (Qs : List Pr) (h : Grommet.Own w0 w (GS Z g d TB I J R all s ++ Qs)) :
    Calls Try.prog 53 #[.pointer (some ⟨R, 0, none⟩), .agg #[gnumF TB I, gtxtF TB]] w fun e w' => (∃ v, e = .returned v) ∧ Grommet.Own w0 w' (GS Z g d TB I J R all (getF all s .to) ++ Qs) := by
  have hO1 : Grommet.Own w0 (w.alloc (.cells #[gnumF TB I, gtxtF TB] 47)) (GS Z g d TB I J R all s ++ (Qs ++ [boxP w.heap.size 47 #[gnumF TB I, gtxtF TB]])) := by
    have := h.addBox 47 #[gnumF TB I, gtxtF TB]; rw [List.append_assoc] at this; exact this
  obtain ⟨H, hH⟩ : ∃ H, w.heap.size = H := ⟨_, rfl⟩
  rw [hH] at hO1
  obtain ⟨c1, _⟩ := own_cellB hO1 (GS Z g d TB I J R all s ++ Qs).length (X := H) (T := 47) (cs := #[gnumF TB I, gtxtF TB]) (by rw [← List.append_assoc]; exact lastQ _ _) 1 rfl
  obtain ⟨c2, _⟩ := own_cellB hO1 5 rfl 6 (u := .string s.r.t) rfl
  have HC := getTxt Z g d TB I J R 200 (by decide) s.r.t all s w0 _ _ (hO1.quiet (grown_drew (World.grownBy.refl _ none)))
  obtain ⟨xx, hxx⟩ : ∃ xx, textR all s.a s.t ((200 : Nat) : Int) = xx := ⟨_, rfl⟩
  have hG : getF all s .to = { r := { s.r with t := str xx.1 }, a := xx.2.1, t := xx.2.2, b := s.b } := by rw [← hxx]; rfl
  rw [hG]
  rw [hxx] at HC
  obtain ⟨vv, aa, tt⟩ := xx
  simp only at HC ⊢
  have HS := Lib.hid (fun wx (hO : Grommet.Own w0 wx (GS Z g d TB I J R all { s with a := aa, t := tt } ++ (Qs ++ [boxP H 47 #[gnumF TB I, gtxtF TB]]))) => (show wx.cell? ⟨R, 6, none⟩ = some (.string s.r.t) ∧ wx.frozen? ⟨R, 6, none⟩ = false ∧ Grommet.Own w0 (wx.setCell ⟨R, 6, none⟩ (.string (str vv))) (GS Z g d TB I J R all { r := { s.r with t := str vv }, a := aa, t := tt, b := s.b } ++ Qs) by
    obtain ⟨a1, a2⟩ := own_cellB hO 5 rfl 6 (u := .string s.r.t) rfl
    have a3 := own_put hO 5 rfl 6 (.string (str vv))
    have a4 : Grommet.Own w0 (wx.setCell ⟨R, 6, none⟩ (.string (str vv))) ((GS Z g d TB I J R all { r := { s.r with t := str vv }, a := aa, t := tt, b := s.b } ++ Qs) ++ [boxP H 47 #[gnumF TB I, gtxtF TB]]) := by rw [List.append_assoc]; exact a3
    exact ⟨a1, a2, a4.less⟩))
  have HC := Lib.hid HC
  unfold gnumF gtxtF at *
  clear h hO1 hG hxx _hr
  go_enter Try.func53, Try.ntmps53
  go_upto_region 1 with fail
  go_region_law (go_simp; refine HC.out.mono ?_; rintro e w3 ⟨rfl, hO3⟩; obtain ⟨d1, d2, d3⟩ := HS.out w3 hO3; replace d3 := Lib.hid d3; clear HS hO3)
  all_goals go_wp2
  all_goals go_end0
  all_goals exact ⟨⟨_, rfl⟩, d3.out⟩

theorem GetC (f : Fd) (Z g d TB I J R : Nat) (all : List UInt8) (s : GetS) (hr : s.r.Ok) (w0 w : World) (Qs : List Pr) (h : Grommet.Own w0 w (GS Z g d TB I J R all s ++ Qs)) :
    Calls Try.prog f.fn #[.pointer (some ⟨R, 0, none⟩), .agg #[gnumF TB I, gtxtF TB]] w fun e w' => (∃ v, e = .returned v) ∧ Grommet.Own w0 w' (GS Z g d TB I J R all (getF all s f) ++ Qs) := by
  cases f
  · exact get_path Z g d TB I J R all s hr w0 w Qs h
  · exact get_flags Z g d TB I J R all s hr w0 w Qs h
  · exact get_fd Z g d TB I J R all s hr w0 w Qs h
  · exact get_size Z g d TB I J R all s hr w0 w Qs h
  · exact get_data Z g d TB I J R all s hr w0 w Qs h
  · exact get_at Z g d TB I J R all s hr w0 w Qs h
  · exact get_to Z g d TB I J R all s hr w0 w Qs h
theorem getF_ok (all : List UInt8) {s : GetS} (h : s.r.Ok) (f : Fd) : (getF all s f).r.Ok := by
  have hn := numberR_lt all s.a s.t
  have hn : (numberR all s.a s.t).1 < 18446744073709551616 := hn
  cases f
  · exact ⟨h.k, h.fl, h.fd, h.at_, h.sz⟩
  · exact ⟨h.k, Nat.mod_lt _ (by decide), h.fd, h.at_, h.sz⟩
  · exact ⟨h.k, h.fl, hn, h.at_, h.sz⟩
  · exact ⟨h.k, h.fl, h.fd, h.at_, hn⟩
  · exact ⟨h.k, h.fl, h.fd, h.at_, h.sz⟩
  · exact ⟨h.k, h.fl, h.fd, hn, h.sz⟩
  · exact ⟨h.k, h.fl, h.fd, h.at_, h.sz⟩
theorem getF_k (all : List UInt8) (s : GetS) (f : Fd) : (getF all s f).r.k = s.r.k := by cases f <;> rfl
end Go.Proofs.Ytlphmpimpeekcaa
