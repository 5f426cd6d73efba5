/- RequestOthers, walked. -/
import Derived.Test.YtlphmpimpeekcaaOthMath
import Derived.Test.YtlphmpimpeekcaaWorks
namespace Go.Proofs.Ytlphmpimpeekcaa
open Go.RowKit Go.Grommet

set_option maxRecDepth 100000 in
theorem Few_any (r : Rq) (h1 : r.p.size ≤ 140737488351232) (h2 : r.t.size ≤ 140737488351232) (h3 : r.d.size ≤ 140737488351232) (w : World) : Calls Try.prog 9 #[.agg r.cs] w fun e w' => e = .returned (.bool (decide (r.p.size + r.t.size + r.d.size ≤ 2048))) ∧ w.grownBy w' none := by
  have hO := Lib.hid ((Own.nil w).addBox 24 r.cs)
  have hg := Lib.hid hO.out.grown
  have c5 := (own_cellB hO.out 0 rfl 5 (u := .string r.p) rfl).1
  have c6 := (own_cellB hO.out 0 rfl 6 (u := .string r.t) rfl).1
  have c7 := (own_cellB hO.out 0 rfl 7 (u := .string r.d) rfl).1
  obtain ⟨a, ha⟩ : ∃ a, r.p.size = a := ⟨_, rfl⟩
  obtain ⟨b, hb⟩ : ∃ b, r.t.size = b := ⟨_, rfl⟩
  obtain ⟨c, hc⟩ : ∃ c, r.d.size = c := ⟨_, rfl⟩
  rw [ha] at h1
  rw [hb] at h2
  rw [hc] at h3
  have e1 : IntKind.i64.wrap ((a : Int) + (b : Int)) = ((a + b : Nat) : Int) := by rw [IntWalk.i64_in _ ⟨by omega, by omega⟩]; omega
  obtain ⟨ab, hab⟩ : ∃ ab, a + b = ab := ⟨_, rfl⟩
  have e2 : IntKind.i64.wrap ((ab : Int) + (c : Int)) = ((ab + c : Nat) : Int) := by rw [IntWalk.i64_in _ ⟨by omega, by omega⟩]; omega
  obtain ⟨abc, habc⟩ : ∃ x, ab + c = x := ⟨_, rfl⟩
  rw [hab] at e1
  rw [habc] at e2
  have e3 : decide ((abc : Int) ≤ 2048) = decide (r.p.size + r.t.size + r.d.size ≤ 2048) := by rw [ha, hb, hc, hab, habc, decide_eq_decide]; omega
  rw [← e3]
  clear h1 h2 h3 hab habc e3 hO
  go_enter Try.func9, Try.ntmps9
  go_wp2
  go_ret
  exact ⟨rfl, hg.out⟩

theorem own_append {w0 w w' : World} {Ps : List Pr} (h : Grommet.Own w0 w Ps) (k : Nat) {e sz n n' : Nat} {v v' : Value} {xs ys : List Value} (hk : Ps[k]? = some (rowP e sz v n xs)) (hr : w'.ownsRow 0 e sz v' n' ys) (hg : w.grownBy w' v.ownBlock)
    (hnew : ∀ g, v'.ownBlock = some g → v.ownBlock = some g ∨ w.heap.size ≤ g) : Grommet.Own w0 w' (Ps.set k (rowP e sz v' n' ys)) := by
  obtain ⟨F, h1, h2⟩ := h.take k hk
  refine h2 _ _ ⟨fun i => F i ∨ w.heap.size ≤ i ∧ i < w'.heap.size, ⟨hr, fun i hi => ?_, fun i hi => ?_⟩, fun i hi => hi.imp id (fun x => x.1), Turn.of hg (fun i e => h1.2.1 i e)⟩
  · rcases hnew i hi with e | e
    · exact .inl (h1.2.1 i e)
    · exact .inr ⟨e, row_old hr i hi⟩
  · rcases hi with hi | hi
    · exact Nat.lt_of_lt_of_le (h1.2.2 i hi) hg.size
    · exact hi.2
theorem six {a : Nat} (h : a < 6) : a = 0 ∨ a = 1 ∨ a = 2 ∨ a = 3 ∨ a = 4 ∨ a = 5 := by omega
def allC (r : Rq) (f1 a1 s1 : Nat) : Array Value := #[.int .u8 (r.k : Int), .int .u8 (r.fl : Int), .int .u64 (f1 : Int), .int .u64 (r.at_ : Int), .int .u64 (r.sz : Int), .string r.p, .string r.t, .string r.d, .int .u8 (r.k : Int), .int .u8 (r.fl : Int), .int .u64 (r.fd : Int), .int .u64 (a1 : Int), .int .u64 (r.sz : Int), .string r.p, .string r.t, .string r.d, .int .u8 (r.k : Int), .int .u8 (r.fl : Int), .int .u64 (r.fd : Int), .int .u64 (r.at_ : Int), .int .u64 (s1 : Int), .string r.p, .string r.t, .string r.d, .int .u8 (r.k : Int), .int .u8 (r.fl : Int), .int .u64 (r.fd : Int), .int .u64 (r.at_ : Int), .int .u64 (r.sz : Int), .string (r.p ++ ⟨#[120]⟩), .string r.t, .string r.d, .int .u8 (r.k : Int), .int .u8 (r.fl : Int), .int .u64 (r.fd : Int), .int .u64 (r.at_ : Int), .int .u64 (r.sz : Int), .string r.p, .string (r.t ++ ⟨#[120]⟩), .string r.d, .int .u8 (r.k : Int), .int .u8 (r.fl : Int), .int .u64 (r.fd : Int), .int .u64 (r.at_ : Int), .int .u64 (r.sz : Int), .string r.p, .string r.t, .string (r.d ++ ⟨#[120]⟩)]
theorem all_0 (r : Rq) (f1 a1 s1 : Nat) {i : Nat} (h : i < 6) : (allC r f1 a1 s1)[i * 8 + 0]? = some (.int .u8 ((r.var f1 a1 s1 i).k : Int)) := by rcases six h with rfl | rfl | rfl | rfl | rfl | rfl <;> rfl
theorem all_1 (r : Rq) (f1 a1 s1 : Nat) {i : Nat} (h : i < 6) : (allC r f1 a1 s1)[i * 8 + 1]? = some (.int .u8 ((r.var f1 a1 s1 i).fl : Int)) := by rcases six h with rfl | rfl | rfl | rfl | rfl | rfl <;> rfl
theorem all_2 (r : Rq) (f1 a1 s1 : Nat) {i : Nat} (h : i < 6) : (allC r f1 a1 s1)[i * 8 + 2]? = some (.int .u64 ((r.var f1 a1 s1 i).fd : Int)) := by rcases six h with rfl | rfl | rfl | rfl | rfl | rfl <;> rfl
theorem all_3 (r : Rq) (f1 a1 s1 : Nat) {i : Nat} (h : i < 6) : (allC r f1 a1 s1)[i * 8 + 3]? = some (.int .u64 ((r.var f1 a1 s1 i).at_ : Int)) := by rcases six h with rfl | rfl | rfl | rfl | rfl | rfl <;> rfl
theorem all_4 (r : Rq) (f1 a1 s1 : Nat) {i : Nat} (h : i < 6) : (allC r f1 a1 s1)[i * 8 + 4]? = some (.int .u64 ((r.var f1 a1 s1 i).sz : Int)) := by rcases six h with rfl | rfl | rfl | rfl | rfl | rfl <;> rfl
theorem all_5 (r : Rq) (f1 a1 s1 : Nat) {i : Nat} (h : i < 6) : (allC r f1 a1 s1)[i * 8 + 5]? = some (.string (r.var f1 a1 s1 i).p) := by rcases six h with rfl | rfl | rfl | rfl | rfl | rfl <;> rfl
theorem all_6 (r : Rq) (f1 a1 s1 : Nat) {i : Nat} (h : i < 6) : (allC r f1 a1 s1)[i * 8 + 6]? = some (.string (r.var f1 a1 s1 i).t) := by rcases six h with rfl | rfl | rfl | rfl | rfl | rfl <;> rfl
theorem all_7 (r : Rq) (f1 a1 s1 : Nat) {i : Nat} (h : i < 6) : (allC r f1 a1 s1)[i * 8 + 7]? = some (.string (r.var f1 a1 s1 i).d) := by rcases six h with rfl | rfl | rfl | rfl | rfl | rfl <;> rfl
theorem infoSl : (Try.prog.info? 25).map (fun i => (i.zero, i.size, i.bytes)) = some (some (.slice none 0 0), 1, 24) := by kernel_rfl
theorem own_last3 {w0 w : World} {A B C D E F G H L : Pr} (h : Grommet.Own w0 w [A, B, C, D, E, F, G, H, L]) : Grommet.Own w0 w [A, B, L] := by
  refine own_pick (fun j => [0, 1, 8].getD j 0) h ?_ ?_
  · intro j hj
    have hj3 : j = 0 ∨ j = 1 ∨ j = 2 := by simp at hj; omega
    rcases hj3 with rfl | rfl | rfl <;> exact ⟨by simp, rfl⟩
  · intro i j hi hj hne
    have hi3 : i = 0 ∨ i = 1 ∨ i = 2 := by simp at hi; omega
    have hj3 : j = 0 ∨ j = 1 ∨ j = 2 := by simp at hj; omega
    rcases hi3 with rfl | rfl | rfl <;> rcases hj3 with rfl | rfl | rfl <;> first | exact absurd rfl hne | decide
theorem var_ok (r : Rq) (f1 a1 s1 : Nat) (h : r.Ok) (hf : f1 < 18446744073709551616) (ha : a1 < 18446744073709551616) (hs : s1 < 18446744073709551616) (i : Nat) : (r.var f1 a1 s1 i).Ok := by
  unfold Rq.var
  split
  · exact ⟨h.k, h.fl, hf, h.at_, h.sz⟩
  · exact ⟨h.k, h.fl, h.fd, ha, h.sz⟩
  · exact ⟨h.k, h.fl, h.fd, h.at_, hs⟩
  · exact ⟨h.k, h.fl, h.fd, h.at_, h.sz⟩
  · exact ⟨h.k, h.fl, h.fd, h.at_, h.sz⟩
  · exact ⟨h.k, h.fl, h.fd, h.at_, h.sz⟩
theorem var_few (r : Rq) (f1 a1 s1 : Nat) (h : r.p.size + r.t.size + r.d.size ≤ 2048) (i : Nat) : (r.var f1 a1 s1 i).Few := by
  have e1 := size_x r.p; have e2 := size_x r.t; have e3 := size_x r.d
  unfold Rq.var
  split <;> refine ⟨?_, ?_, ?_⟩ <;> simp only [e1, e2, e3] <;> omega

namespace requestOthers
def WorksOk (w : World) (e : Ending) (w' : World) : Prop := e = .returned (.bool true) ∧ w.grownBy w' none

set_option maxRecDepth 100000 in
set_option maxHeartbeats 8000000 in
theorem walk_r (r : Rq) (hr : r.Ok) (h1 : r.p.size ≤ 140737488351232) (h2 : r.t.size ≤ 140737488351232) (h3 : r.d.size ≤ 140737488351232) (w : World) :
    Calls Try.prog 8 #[.agg r.cs] w (WorksOk w) := by
  have HFw := Lib.hid (fun wx => Few_any r h1 h2 h3 wx)
  have HM := Lib.hid (fun wx => May_any r hr wx)
  have hO := Lib.hid ((Own.nil w).addBox 24 r.cs)
  obtain ⟨G, hG⟩ : ∃ G, w.heap.size = G := ⟨_, rfl⟩
  rw [hG] at hO
  have c0 := (own_cellB hO.out 0 rfl 0 (u := .int .u8 (r.k : Int)) rfl).1
  have c1 := (own_cellB hO.out 0 rfl 1 (u := .int .u8 (r.fl : Int)) rfl).1
  have c2 := (own_cellB hO.out 0 rfl 2 (u := .int .u64 (r.fd : Int)) rfl).1
  have c3 := (own_cellB hO.out 0 rfl 3 (u := .int .u64 (r.at_ : Int)) rfl).1
  have c4 := (own_cellB hO.out 0 rfl 4 (u := .int .u64 (r.sz : Int)) rfl).1
  have c5 := (own_cellB hO.out 0 rfl 5 (u := .string r.p) rfl).1
  have c6 := (own_cellB hO.out 0 rfl 6 (u := .string r.t) rfl).1
  have c7 := (own_cellB hO.out 0 rfl 7 (u := .string r.d) rfl).1
  obtain ⟨fb, hfb⟩ : ∃ fb, decide (r.p.size + r.t.size + r.d.size ≤ 2048) = fb := ⟨_, rfl⟩
  rw [hfb] at HFw
  obtain ⟨mb, hmb⟩ : ∃ mb, mayQ r = mb := ⟨_, rfl⟩
  rw [hmb] at HM
  have Hfb := Lib.hid hfb
  have Hmb := Lib.hid hmb
  have Hr := Lib.hid hr
  unfold Rq.cs at HM HFw
  clear h1 h2 h3 hfb hmb hr
  go_enter Try.func8, Try.ntmps8
  go_upto_region 1 with fail
  try (change Code.wp _ _ _ _ (w.alloc (.cells r.cs 24)))
  generalize World.alloc _ _ = w1 at *
  clear hG
  go_wp2_with fail
  refine (HFw.out _).mono ?_
  rintro e w2 ⟨rfl, hg⟩
  replace hO := Lib.hid (hO.out.quiet hg)
  clear c0 c1 c2 c3 c4 c5 c6 c7
  clear hg HFw
  cases fb
  · go_wp2_with fail
    refine (works_ev _).mono ?_
    rintro e w9 ⟨rfl, hg⟩
    go_wp2
    go_ret
    exact ⟨rfl, grown_trans hO.out.grown hg⟩
  · have c0 := (own_cellB hO.out 0 rfl 0 (u := .int .u8 (r.k : Int)) rfl).1
    have c1 := (own_cellB hO.out 0 rfl 1 (u := .int .u8 (r.fl : Int)) rfl).1
    have c2 := (own_cellB hO.out 0 rfl 2 (u := .int .u64 (r.fd : Int)) rfl).1
    have c3 := (own_cellB hO.out 0 rfl 3 (u := .int .u64 (r.at_ : Int)) rfl).1
    have c4 := (own_cellB hO.out 0 rfl 4 (u := .int .u64 (r.sz : Int)) rfl).1
    have c5 := (own_cellB hO.out 0 rfl 5 (u := .string r.p) rfl).1
    have c6 := (own_cellB hO.out 0 rfl 6 (u := .string r.t) rfl).1
    have c7 := (own_cellB hO.out 0 rfl 7 (u := .string r.d) rfl).1
    go_wp2_with fail
    refine (HM.out _).mono ?_
    rintro e w3 ⟨rfl, hg⟩
    replace hO := Lib.hid (hO.out.quiet hg)
    clear c0 c1 c2 c3 c4 c5 c6 c7
    clear hg HM
    cases mb
    · go_wp2_with fail
      refine (works_ev _).mono ?_
      rintro e w9 ⟨rfl, hg⟩
      go_wp2
      go_ret
      exact ⟨rfl, grown_trans hO.out.grown hg⟩
    · have hrow : (w3.alloc (.cells #[] 25)).ownsRow w3.heap.size 25 1 (.slice (some ⟨w3.heap.size, 0, none⟩) 0 0) 0 [] := ⟨rfl, .inr ⟨w3.heap.size, 0, #[], rfl, Nat.le_refl _, heap_alloc_new w3 _, Nat.le_refl _, Nat.zero_le _, rfl, rfl⟩⟩
      have hOn := hO.out.addRow hrow (World.grownBy_alloc w3 _ none)
      obtain ⟨E, hE⟩ : ∃ E, w3.heap.size = E := ⟨_, rfl⟩
      rw [hE] at hOn
      go_upto_region 4 with fail
      generalize World.alloc _ _ = w4 at hOn ⊢
      clear hO hrow hE
      have hO : Hid (Grommet.Own w w4 [boxP G 24 r.cs, rowP 25 1 (.slice (some ⟨E, 0, none⟩) 0 0) 0 []]) := Lib.hid hOn
      clear hOn
      obtain ⟨f1, hf1⟩ : ∃ x, (r.fd + 1) % 18446744073709551616 = x := ⟨_, rfl⟩
      obtain ⟨a1, ha1⟩ : ∃ x, (r.at_ + 1) % 18446744073709551616 = x := ⟨_, rfl⟩
      obtain ⟨s1, hs1⟩ : ∃ x, (r.sz + 1) % 18446744073709551616 = x := ⟨_, rfl⟩
      have wf1 := wrap_succ r.fd Hr.out.fd
      have wa1 := wrap_succ r.at_ Hr.out.at_
      have ws1 := wrap_succ r.sz Hr.out.sz
      rw [hf1] at wf1
      rw [ha1] at wa1
      rw [hs1] at ws1
      have Hc := Lib.hid (cnt_all r f1 a1 s1 Hr.out Hmb.out hf1.symm ha1.symm hs1.symm)
      have Hv := Lib.hid (var_ok r f1 a1 s1 Hr.out (by rw [← hf1]; exact Nat.mod_lt _ (by decide)) (by rw [← ha1]; exact Nat.mod_lt _ (by decide)) (by rw [← hs1]; exact Nat.mod_lt _ (by decide)))
      have Hw := Lib.hid (var_few r f1 a1 s1 (of_decide_eq_true Hfb.out))
      have np : ¬ 9223372036854775807 < r.p.size + 1 := by have := of_decide_eq_true Hfb.out; omega
      have nt : ¬ 9223372036854775807 < r.t.size + 1 := by have := of_decide_eq_true Hfb.out; omega
      have nd : ¬ 9223372036854775807 < r.d.size + 1 := by have := of_decide_eq_true Hfb.out; omega
      clear hf1 ha1 hs1
      have c0 := (own_cellB hO.out 0 rfl 0 (u := .int .u8 (r.k : Int)) rfl).1
      have c1 := (own_cellB hO.out 0 rfl 1 (u := .int .u8 (r.fl : Int)) rfl).1
      have c2 := (own_cellB hO.out 0 rfl 2 (u := .int .u64 (r.fd : Int)) rfl).1
      have c3 := (own_cellB hO.out 0 rfl 3 (u := .int .u64 (r.at_ : Int)) rfl).1
      have c4 := (own_cellB hO.out 0 rfl 4 (u := .int .u64 (r.sz : Int)) rfl).1
      have c5 := (own_cellB hO.out 0 rfl 5 (u := .string r.p) rfl).1
      have c6 := (own_cellB hO.out 0 rfl 6 (u := .string r.t) rfl).1
      have c7 := (own_cellB hO.out 0 rfl 7 (u := .string r.d) rfl).1
      have hOn := hO.out.addBox 24 #[.int .u8 (r.k : Int), .int .u8 (r.fl : Int), .int .u64 (r.fd : Int), .int .u64 (r.at_ : Int), .int .u64 (r.sz : Int), .string r.p, .string r.t, .string r.d]
      obtain ⟨X0, hX0⟩ : ∃ X, (w4).heap.size = X := ⟨_, rfl⟩
      rw [hX0] at hOn
      go_upto_region 5 with fail
      generalize World.alloc _ _ = wa0 at hOn ⊢
      clear hX0 hO
      clear c0 c1 c2 c3 c4 c5 c6 c7
      obtain ⟨d1, d2⟩ := own_cellB hOn 2 rfl 2 (u := .int .u64 (r.fd : Int)) rfl
      have hOm := own_put hOn 2 rfl 2 (.int .u64 (f1 : Int))
      go_upto_region 6 with fail
      generalize World.setCell _ _ _ = wb0 at hOm ⊢
      have hO : Hid (Grommet.Own w wb0 [boxP G 24 r.cs, rowP 25 1 (.slice (some ⟨E, 0, none⟩) 0 0) 0 [], boxP X0 24 (r.var f1 a1 s1 0).cs]) := Lib.hid hOm
      clear hOn hOm d1 d2
      have c0 := (own_cellB hO.out 0 rfl 0 (u := .int .u8 (r.k : Int)) rfl).1
      have c1 := (own_cellB hO.out 0 rfl 1 (u := .int .u8 (r.fl : Int)) rfl).1
      have c2 := (own_cellB hO.out 0 rfl 2 (u := .int .u64 (r.fd : Int)) rfl).1
      have c3 := (own_cellB hO.out 0 rfl 3 (u := .int .u64 (r.at_ : Int)) rfl).1
      have c4 := (own_cellB hO.out 0 rfl 4 (u := .int .u64 (r.sz : Int)) rfl).1
      have c5 := (own_cellB hO.out 0 rfl 5 (u := .string r.p) rfl).1
      have c6 := (own_cellB hO.out 0 rfl 6 (u := .string r.t) rfl).1
      have c7 := (own_cellB hO.out 0 rfl 7 (u := .string r.d) rfl).1
      have hOn := hO.out.addBox 24 #[.int .u8 (r.k : Int), .int .u8 (r.fl : Int), .int .u64 (r.fd : Int), .int .u64 (r.at_ : Int), .int .u64 (r.sz : Int), .string r.p, .string r.t, .string r.d]
      obtain ⟨X1, hX1⟩ : ∃ X, (wb0).heap.size = X := ⟨_, rfl⟩
      rw [hX1] at hOn
      go_upto_region 7 with fail
      generalize World.alloc _ _ = wa1 at hOn ⊢
      clear hX1 hO
      clear c0 c1 c2 c3 c4 c5 c6 c7
      obtain ⟨d1, d2⟩ := own_cellB hOn 3 rfl 3 (u := .int .u64 (r.at_ : Int)) rfl
      have hOm := own_put hOn 3 rfl 3 (.int .u64 (a1 : Int))
      go_upto_region 8 with fail
      generalize World.setCell _ _ _ = wb1 at hOm ⊢
      have hO : Hid (Grommet.Own w wb1 [boxP G 24 r.cs, rowP 25 1 (.slice (some ⟨E, 0, none⟩) 0 0) 0 [], boxP X0 24 (r.var f1 a1 s1 0).cs, boxP X1 24 (r.var f1 a1 s1 1).cs]) := Lib.hid hOm
      clear hOn hOm d1 d2
      have c0 := (own_cellB hO.out 0 rfl 0 (u := .int .u8 (r.k : Int)) rfl).1
      have c1 := (own_cellB hO.out 0 rfl 1 (u := .int .u8 (r.fl : Int)) rfl).1
      have c2 := (own_cellB hO.out 0 rfl 2 (u := .int .u64 (r.fd : Int)) rfl).1
      have c3 := (own_cellB hO.out 0 rfl 3 (u := .int .u64 (r.at_ : Int)) rfl).1
      have c4 := (own_cellB hO.out 0 rfl 4 (u := .int .u64 (r.sz : Int)) rfl).1
      have c5 := (own_cellB hO.out 0 rfl 5 (u := .string r.p) rfl).1
      have c6 := (own_cellB hO.out 0 rfl 6 (u := .string r.t) rfl).1
      have c7 := (own_cellB hO.out 0 rfl 7 (u := .string r.d) rfl).1
      have hOn := hO.out.addBox 24 #[.int .u8 (r.k : Int), .int .u8 (r.fl : Int), .int .u64 (r.fd : Int), .int .u64 (r.at_ : Int), .int .u64 (r.sz : Int), .string r.p, .string r.t, .string r.d]
      obtain ⟨X2, hX2⟩ : ∃ X, (wb1).heap.size = X := ⟨_, rfl⟩
      rw [hX2] at hOn
      go_upto_region 9 with fail
      generalize World.alloc _ _ = wa2 at hOn ⊢
      clear hX2 hO
      clear c0 c1 c2 c3 c4 c5 c6 c7
      obtain ⟨d1, d2⟩ := own_cellB hOn 4 rfl 4 (u := .int .u64 (r.sz : Int)) rfl
      have hOm := own_put hOn 4 rfl 4 (.int .u64 (s1 : Int))
      go_upto_region 10 with fail
      generalize World.setCell _ _ _ = wb2 at hOm ⊢
      have hO : Hid (Grommet.Own w wb2 [boxP G 24 r.cs, rowP 25 1 (.slice (some ⟨E, 0, none⟩) 0 0) 0 [], boxP X0 24 (r.var f1 a1 s1 0).cs, boxP X1 24 (r.var f1 a1 s1 1).cs, boxP X2 24 (r.var f1 a1 s1 2).cs]) := Lib.hid hOm
      clear hOn hOm d1 d2
      have c0 := (own_cellB hO.out 0 rfl 0 (u := .int .u8 (r.k : Int)) rfl).1
      have c1 := (own_cellB hO.out 0 rfl 1 (u := .int .u8 (r.fl : Int)) rfl).1
      have c2 := (own_cellB hO.out 0 rfl 2 (u := .int .u64 (r.fd : Int)) rfl).1
      have c3 := (own_cellB hO.out 0 rfl 3 (u := .int .u64 (r.at_ : Int)) rfl).1
      have c4 := (own_cellB hO.out 0 rfl 4 (u := .int .u64 (r.sz : Int)) rfl).1
      have c5 := (own_cellB hO.out 0 rfl 5 (u := .string r.p) rfl).1
      have c6 := (own_cellB hO.out 0 rfl 6 (u := .string r.t) rfl).1
      have c7 := (own_cellB hO.out 0 rfl 7 (u := .string r.d) rfl).1
      have hOn := hO.out.addBox 24 #[.int .u8 (r.k : Int), .int .u8 (r.fl : Int), .int .u64 (r.fd : Int), .int .u64 (r.at_ : Int), .int .u64 (r.sz : Int), .string r.p, .string r.t, .string r.d]
      obtain ⟨X3, hX3⟩ : ∃ X, (wb2).heap.size = X := ⟨_, rfl⟩
      rw [hX3] at hOn
      go_upto_region 11 with fail
      generalize World.alloc _ _ = wa3 at hOn ⊢
      clear hX3 hO
      clear c0 c1 c2 c3 c4 c5 c6 c7
      obtain ⟨d1, d2⟩ := own_cellB hOn 5 rfl 5 (u := .string r.p) rfl
      have hOm := own_put hOn 5 rfl 5 (.string (r.p ++ ⟨#[120]⟩))
      go_upto_region 12 with fail
      generalize World.setCell _ _ _ = wb3 at hOm ⊢
      have hO : Hid (Grommet.Own w wb3 [boxP G 24 r.cs, rowP 25 1 (.slice (some ⟨E, 0, none⟩) 0 0) 0 [], boxP X0 24 (r.var f1 a1 s1 0).cs, boxP X1 24 (r.var f1 a1 s1 1).cs, boxP X2 24 (r.var f1 a1 s1 2).cs, boxP X3 24 (r.var f1 a1 s1 3).cs]) := Lib.hid hOm
      clear hOn hOm d1 d2
      have c0 := (own_cellB hO.out 0 rfl 0 (u := .int .u8 (r.k : Int)) rfl).1
      have c1 := (own_cellB hO.out 0 rfl 1 (u := .int .u8 (r.fl : Int)) rfl).1
      have c2 := (own_cellB hO.out 0 rfl 2 (u := .int .u64 (r.fd : Int)) rfl).1
      have c3 := (own_cellB hO.out 0 rfl 3 (u := .int .u64 (r.at_ : Int)) rfl).1
      have c4 := (own_cellB hO.out 0 rfl 4 (u := .int .u64 (r.sz : Int)) rfl).1
      have c5 := (own_cellB hO.out 0 rfl 5 (u := .string r.p) rfl).1
      have c6 := (own_cellB hO.out 0 rfl 6 (u := .string r.t) rfl).1
      have c7 := (own_cellB hO.out 0 rfl 7 (u := .string r.d) rfl).1
      have hOn := hO.out.addBox 24 #[.int .u8 (r.k : Int), .int .u8 (r.fl : Int), .int .u64 (r.fd : Int), .int .u64 (r.at_ : Int), .int .u64 (r.sz : Int), .string r.p, .string r.t, .string r.d]
      obtain ⟨X4, hX4⟩ : ∃ X, (wb3).heap.size = X := ⟨_, rfl⟩
      rw [hX4] at hOn
      go_upto_region 13 with fail
      generalize World.alloc _ _ = wa4 at hOn ⊢
      clear hX4 hO
      clear c0 c1 c2 c3 c4 c5 c6 c7
      obtain ⟨d1, d2⟩ := own_cellB hOn 6 rfl 6 (u := .string r.t) rfl
      have hOm := own_put hOn 6 rfl 6 (.string (r.t ++ ⟨#[120]⟩))
      go_upto_region 14 with fail
      generalize World.setCell _ _ _ = wb4 at hOm ⊢
      have hO : Hid (Grommet.Own w wb4 [boxP G 24 r.cs, rowP 25 1 (.slice (some ⟨E, 0, none⟩) 0 0) 0 [], boxP X0 24 (r.var f1 a1 s1 0).cs, boxP X1 24 (r.var f1 a1 s1 1).cs, boxP X2 24 (r.var f1 a1 s1 2).cs, boxP X3 24 (r.var f1 a1 s1 3).cs, boxP X4 24 (r.var f1 a1 s1 4).cs]) := Lib.hid hOm
      clear hOn hOm d1 d2
      have c0 := (own_cellB hO.out 0 rfl 0 (u := .int .u8 (r.k : Int)) rfl).1
      have c1 := (own_cellB hO.out 0 rfl 1 (u := .int .u8 (r.fl : Int)) rfl).1
      have c2 := (own_cellB hO.out 0 rfl 2 (u := .int .u64 (r.fd : Int)) rfl).1
      have c3 := (own_cellB hO.out 0 rfl 3 (u := .int .u64 (r.at_ : Int)) rfl).1
      have c4 := (own_cellB hO.out 0 rfl 4 (u := .int .u64 (r.sz : Int)) rfl).1
      have c5 := (own_cellB hO.out 0 rfl 5 (u := .string r.p) rfl).1
      have c6 := (own_cellB hO.out 0 rfl 6 (u := .string r.t) rfl).1
      have c7 := (own_cellB hO.out 0 rfl 7 (u := .string r.d) rfl).1
      have hOn := hO.out.addBox 24 #[.int .u8 (r.k : Int), .int .u8 (r.fl : Int), .int .u64 (r.fd : Int), .int .u64 (r.at_ : Int), .int .u64 (r.sz : Int), .string r.p, .string r.t, .string r.d]
      obtain ⟨X5, hX5⟩ : ∃ X, (wb4).heap.size = X := ⟨_, rfl⟩
      rw [hX5] at hOn
      go_upto_region 15 with fail
      generalize World.alloc _ _ = wa5 at hOn ⊢
      clear hX5 hO
      clear c0 c1 c2 c3 c4 c5 c6 c7
      obtain ⟨d1, d2⟩ := own_cellB hOn 7 rfl 7 (u := .string r.d) rfl
      have hOm := own_put hOn 7 rfl 7 (.string (r.d ++ ⟨#[120]⟩))
      go_upto_region 16 with fail
      generalize World.setCell _ _ _ = wb5 at hOm ⊢
      have hO : Hid (Grommet.Own w wb5 [boxP G 24 r.cs, rowP 25 1 (.slice (some ⟨E, 0, none⟩) 0 0) 0 [], boxP X0 24 (r.var f1 a1 s1 0).cs, boxP X1 24 (r.var f1 a1 s1 1).cs, boxP X2 24 (r.var f1 a1 s1 2).cs, boxP X3 24 (r.var f1 a1 s1 3).cs, boxP X4 24 (r.var f1 a1 s1 4).cs, boxP X5 24 (r.var f1 a1 s1 5).cs]) := Lib.hid hOm
      clear hOn hOm d1 d2
      clear wf1 wa1 ws1 np nt nd
      have q0_0 := (own_cellB hO.out 2 rfl 0 (u := .int .u8 (r.k : Int)) rfl).1
      have q0_1 := (own_cellB hO.out 2 rfl 1 (u := .int .u8 (r.fl : Int)) rfl).1
      have q0_2 := (own_cellB hO.out 2 rfl 2 (u := .int .u64 (f1 : Int)) rfl).1
      have q0_3 := (own_cellB hO.out 2 rfl 3 (u := .int .u64 (r.at_ : Int)) rfl).1
      have q0_4 := (own_cellB hO.out 2 rfl 4 (u := .int .u64 (r.sz : Int)) rfl).1
      have q0_5 := (own_cellB hO.out 2 rfl 5 (u := .string r.p) rfl).1
      have q0_6 := (own_cellB hO.out 2 rfl 6 (u := .string r.t) rfl).1
      have q0_7 := (own_cellB hO.out 2 rfl 7 (u := .string r.d) rfl).1
      have q1_0 := (own_cellB hO.out 3 rfl 0 (u := .int .u8 (r.k : Int)) rfl).1
      have q1_1 := (own_cellB hO.out 3 rfl 1 (u := .int .u8 (r.fl : Int)) rfl).1
      have q1_2 := (own_cellB hO.out 3 rfl 2 (u := .int .u64 (r.fd : Int)) rfl).1
      have q1_3 := (own_cellB hO.out 3 rfl 3 (u := .int .u64 (a1 : Int)) rfl).1
      have q1_4 := (own_cellB hO.out 3 rfl 4 (u := .int .u64 (r.sz : Int)) rfl).1
      have q1_5 := (own_cellB hO.out 3 rfl 5 (u := .string r.p) rfl).1
      have q1_6 := (own_cellB hO.out 3 rfl 6 (u := .string r.t) rfl).1
      have q1_7 := (own_cellB hO.out 3 rfl 7 (u := .string r.d) rfl).1
      have q2_0 := (own_cellB hO.out 4 rfl 0 (u := .int .u8 (r.k : Int)) rfl).1
      have q2_1 := (own_cellB hO.out 4 rfl 1 (u := .int .u8 (r.fl : Int)) rfl).1
      have q2_2 := (own_cellB hO.out 4 rfl 2 (u := .int .u64 (r.fd : Int)) rfl).1
      have q2_3 := (own_cellB hO.out 4 rfl 3 (u := .int .u64 (r.at_ : Int)) rfl).1
      have q2_4 := (own_cellB hO.out 4 rfl 4 (u := .int .u64 (s1 : Int)) rfl).1
      have q2_5 := (own_cellB hO.out 4 rfl 5 (u := .string r.p) rfl).1
      have q2_6 := (own_cellB hO.out 4 rfl 6 (u := .string r.t) rfl).1
      have q2_7 := (own_cellB hO.out 4 rfl 7 (u := .string r.d) rfl).1
      have q3_0 := (own_cellB hO.out 5 rfl 0 (u := .int .u8 (r.k : Int)) rfl).1
      have q3_1 := (own_cellB hO.out 5 rfl 1 (u := .int .u8 (r.fl : Int)) rfl).1
      have q3_2 := (own_cellB hO.out 5 rfl 2 (u := .int .u64 (r.fd : Int)) rfl).1
      have q3_3 := (own_cellB hO.out 5 rfl 3 (u := .int .u64 (r.at_ : Int)) rfl).1
      have q3_4 := (own_cellB hO.out 5 rfl 4 (u := .int .u64 (r.sz : Int)) rfl).1
      have q3_5 := (own_cellB hO.out 5 rfl 5 (u := .string (r.p ++ ⟨#[120]⟩)) rfl).1
      have q3_6 := (own_cellB hO.out 5 rfl 6 (u := .string r.t) rfl).1
      have q3_7 := (own_cellB hO.out 5 rfl 7 (u := .string r.d) rfl).1
      have q4_0 := (own_cellB hO.out 6 rfl 0 (u := .int .u8 (r.k : Int)) rfl).1
      have q4_1 := (own_cellB hO.out 6 rfl 1 (u := .int .u8 (r.fl : Int)) rfl).1
      have q4_2 := (own_cellB hO.out 6 rfl 2 (u := .int .u64 (r.fd : Int)) rfl).1
      have q4_3 := (own_cellB hO.out 6 rfl 3 (u := .int .u64 (r.at_ : Int)) rfl).1
      have q4_4 := (own_cellB hO.out 6 rfl 4 (u := .int .u64 (r.sz : Int)) rfl).1
      have q4_5 := (own_cellB hO.out 6 rfl 5 (u := .string r.p) rfl).1
      have q4_6 := (own_cellB hO.out 6 rfl 6 (u := .string (r.t ++ ⟨#[120]⟩)) rfl).1
      have q4_7 := (own_cellB hO.out 6 rfl 7 (u := .string r.d) rfl).1
      have q5_0 := (own_cellB hO.out 7 rfl 0 (u := .int .u8 (r.k : Int)) rfl).1
      have q5_1 := (own_cellB hO.out 7 rfl 1 (u := .int .u8 (r.fl : Int)) rfl).1
      have q5_2 := (own_cellB hO.out 7 rfl 2 (u := .int .u64 (r.fd : Int)) rfl).1
      have q5_3 := (own_cellB hO.out 7 rfl 3 (u := .int .u64 (r.at_ : Int)) rfl).1
      have q5_4 := (own_cellB hO.out 7 rfl 4 (u := .int .u64 (r.sz : Int)) rfl).1
      have q5_5 := (own_cellB hO.out 7 rfl 5 (u := .string r.p) rfl).1
      have q5_6 := (own_cellB hO.out 7 rfl 6 (u := .string r.t) rfl).1
      have q5_7 := (own_cellB hO.out 7 rfl 7 (u := .string (r.d ++ ⟨#[120]⟩)) rfl).1
      have hOn := hO.out.addBox 24 #[.int .u8 (r.k : Int), .int .u8 (r.fl : Int), .int .u64 (f1 : Int), .int .u64 (r.at_ : Int), .int .u64 (r.sz : Int), .string r.p, .string r.t, .string r.d, .int .u8 (r.k : Int), .int .u8 (r.fl : Int), .int .u64 (r.fd : Int), .int .u64 (a1 : Int), .int .u64 (r.sz : Int), .string r.p, .string r.t, .string r.d, .int .u8 (r.k : Int), .int .u8 (r.fl : Int), .int .u64 (r.fd : Int), .int .u64 (r.at_ : Int), .int .u64 (s1 : Int), .string r.p, .string r.t, .string r.d, .int .u8 (r.k : Int), .int .u8 (r.fl : Int), .int .u64 (r.fd : Int), .int .u64 (r.at_ : Int), .int .u64 (r.sz : Int), .string (r.p ++ ⟨#[120]⟩), .string r.t, .string r.d, .int .u8 (r.k : Int), .int .u8 (r.fl : Int), .int .u64 (r.fd : Int), .int .u64 (r.at_ : Int), .int .u64 (r.sz : Int), .string r.p, .string (r.t ++ ⟨#[120]⟩), .string r.d, .int .u8 (r.k : Int), .int .u8 (r.fl : Int), .int .u64 (r.fd : Int), .int .u64 (r.at_ : Int), .int .u64 (r.sz : Int), .string r.p, .string r.t, .string (r.d ++ ⟨#[120]⟩)]
      obtain ⟨V, hV⟩ : ∃ V, wb5.heap.size = V := ⟨_, rfl⟩
      rw [hV] at hOn
      go_upto_region 17 with fail
      generalize World.alloc _ _ = w5 at hOn ⊢
      clear q0_0 q0_1 q0_2 q0_3 q0_4 q0_5 q0_6 q0_7 q1_0 q1_1 q1_2 q1_3 q1_4 q1_5 q1_6 q1_7 q2_0 q2_1 q2_2 q2_3 q2_4 q2_5 q2_6 q2_7 q3_0 q3_1 q3_2 q3_3 q3_4 q3_5 q3_6 q3_7 q4_0 q4_1 q4_2 q4_3 q4_4 q4_5 q4_6 q4_7 q5_0 q5_1 q5_2 q5_3 q5_4 q5_5 q5_6 q5_7
      have hO6 : Hid (Grommet.Own w w5 [boxP G 24 r.cs, rowP 25 1 (.slice (some ⟨E, 0, none⟩) 0 0) 0 [], boxP V 24 (allC r f1 a1 s1)]) := Lib.hid (own_last3 hOn)
      clear hO hOn hV
      go_wp2_with fail
      go_loopw [3, 11] (fun l s wr => ∃ (i m : Nat) (ad : Option Addr) (cap : Nat) (xs : List Value), i ≤ 6 ∧ s = .int .i64 (i : Int) ∧ l = .slice ad m cap ∧ Hid (m = cntV r f1 a1 s1 i) ∧ Hid (m ≤ i) ∧ Hid (Grommet.Own w wr [boxP G 24 r.cs, rowP 25 1 (.slice ad m cap) m xs, boxP V 24 (allC r f1 a1 s1)])) (fun _ s _ => 6 - (intOf s).toNat)
      case atStart => exact ⟨0, 0, _, _, _, Nat.zero_le _, rfl, rfl, Lib.hid rfl, Lib.hid (Nat.le_refl _), hO6⟩
      case round =>
        clear hO6
        obtain ⟨i, m, ad, cap, xs, hi, rfl, rfl, Hm, Hmi, hO⟩ := hrel
        have i0 : (0 : Int) ≤ (i : Int) := by omega
        by_cases hlt : i < 6
        · have hlt' : (i : Int) < 6 := by omega
          have wi : IntKind.i64.wrap ((i : Int) + 1) = (i : Int) + 1 := IntWalk.i64_in _ ⟨by omega, by omega⟩
          have wi2 : IntKind.i64.wrap (i : Int) = (i : Int) := IntWalk.i64_in _ ⟨by omega, by omega⟩
          have c0 : wr.cell? ⟨V, i * 8, none⟩ = some (.int .u8 ((r.var f1 a1 s1 i).k : Int)) := (own_cellB hO.out 2 rfl (i * 8 + 0) (u := .int .u8 ((r.var f1 a1 s1 i).k : Int)) (all_0 r f1 a1 s1 hlt)).1
          have c1 := (own_cellB hO.out 2 rfl (i * 8 + 1) (u := .int .u8 ((r.var f1 a1 s1 i).fl : Int)) (all_1 r f1 a1 s1 hlt)).1
          have c2 := (own_cellB hO.out 2 rfl (i * 8 + 2) (u := .int .u64 ((r.var f1 a1 s1 i).fd : Int)) (all_2 r f1 a1 s1 hlt)).1
          have c3 := (own_cellB hO.out 2 rfl (i * 8 + 3) (u := .int .u64 ((r.var f1 a1 s1 i).at_ : Int)) (all_3 r f1 a1 s1 hlt)).1
          have c4 := (own_cellB hO.out 2 rfl (i * 8 + 4) (u := .int .u64 ((r.var f1 a1 s1 i).sz : Int)) (all_4 r f1 a1 s1 hlt)).1
          have c5 := (own_cellB hO.out 2 rfl (i * 8 + 5) (u := .string (r.var f1 a1 s1 i).p) (all_5 r f1 a1 s1 hlt)).1
          have c6 := (own_cellB hO.out 2 rfl (i * 8 + 6) (u := .string (r.var f1 a1 s1 i).t) (all_6 r f1 a1 s1 hlt)).1
          have c7 := (own_cellB hO.out 2 rfl (i * 8 + 7) (u := .string (r.var f1 a1 s1 i).d) (all_7 r f1 a1 s1 hlt)).1
          have Hin := Lib.hid hlt
          have Hs : Hid (cntV r f1 a1 s1 (i + 1) = cntV r f1 a1 s1 i + (if mayQ (r.var f1 a1 s1 i) = true then 1 else 0)) := Lib.hid rfl
          have hok := Hv.out i
          have hfw := Hw.out i
          obtain ⟨x, hx⟩ : ∃ x, r.var f1 a1 s1 i = x := ⟨_, rfl⟩
          rw [hx] at c0 c1 c2 c3 c4 c5 c6 c7 hok hfw Hs
          have HP := fun wx => Put_any x hok hfw wx
          have HM := fun wx => May_any x hok wx
          obtain ⟨L, hL⟩ : ∃ L, (putQ x).length = L := ⟨_, rfl⟩
          have HP2 : ∀ wx, Calls Try.prog 15 #[.agg #[.int .u8 (x.k : Int), .int .u8 (x.fl : Int), .int .u64 (x.fd : Int), .int .u64 (x.at_ : Int), .int .u64 (x.sz : Int), .string x.p, .string x.t, .string x.d]] wx fun e w' => (∃ ad cap, e = .returned (.slice ad L cap)) ∧ wx.grownBy w' none := fun wx => (HP wx).mono (by
            rintro e w' ⟨ad, cap, rfl, _, _, _, hg⟩
            rw [hL]
            exact ⟨⟨ad, cap, rfl⟩, hg⟩)
          have HP2 := Lib.hid HP2
          have hLm : (mayQ x = true → 0 < L) ∧ (mayQ x = false → L = 0) := by
            rw [← hL]; unfold putQ
            constructor
            · intro h; rw [if_pos h]; simp [putL]
            · intro h; rw [if_neg (by rw [h]; decide)]; rfl
          obtain ⟨mb, hmb⟩ : ∃ mb, mayQ x = mb := ⟨_, rfl⟩
          rw [hmb] at HM hLm Hs
          have HM := Lib.hid HM
          unfold Rq.cs at HM
          clear HP hL hx hlt hi hok hfw hmb
          cases mb
          · obtain rfl := hLm.2 rfl
            have Hs2 : Hid (m = cntV r f1 a1 s1 (i + 1)) := Lib.hid (by rw [Hs.out, Hm.out]; rfl)
            clear hLm Hm Hs
            go_wp2_with fail
            refine (HP2.out _).mono ?_
            rintro e w6 ⟨⟨ad6, cap6, rfl⟩, hg⟩
            replace c0 := hg.cell c0 (by simp); replace c1 := hg.cell c1 (by simp); replace c2 := hg.cell c2 (by simp); replace c3 := hg.cell c3 (by simp); replace c4 := hg.cell c4 (by simp); replace c5 := hg.cell c5 (by simp); replace c6 := hg.cell c6 (by simp); replace c7 := hg.cell c7 (by simp)
            replace hO := Lib.hid (hO.out.quiet hg)
            clear hg HP2
            go_wp2_with fail
            refine (HM.out _).mono ?_
            rintro e w7 ⟨rfl, hg⟩
            replace hO := Lib.hid (hO.out.quiet hg)
            clear hg HM c0 c1 c2 c3 c4 c5 c6 c7
            go_wp2
            go_roundw
            case rel => exact ⟨i + 1, m, ad, cap, xs, Hin.out, by go_num, rfl, Hs2, Lib.hid (by have := Hmi.out; omega), hO⟩
            case measure => have := Hin.out; simp [intOf]; omega
          · have hLp := hLm.1 rfl
            have Hs2 : Hid (m + 1 = cntV r f1 a1 s1 (i + 1)) := Lib.hid (by rw [Hs.out, Hm.out]; rfl)
            clear hLm Hm Hs
            go_wp2_with fail
            refine (HP2.out _).mono ?_
            rintro e w6 ⟨⟨ad6, cap6, rfl⟩, hg⟩
            replace c0 := hg.cell c0 (by simp); replace c1 := hg.cell c1 (by simp); replace c2 := hg.cell c2 (by simp); replace c3 := hg.cell c3 (by simp); replace c4 := hg.cell c4 (by simp); replace c5 := hg.cell c5 (by simp); replace c6 := hg.cell c6 (by simp); replace c7 := hg.cell c7 (by simp)
            replace hO := Lib.hid (hO.out.quiet hg)
            clear hg HP2
            go_wp2_with fail
            refine (HM.out _).mono ?_
            rintro e w7 ⟨rfl, hg⟩
            replace hO := Lib.hid (hO.out.quiet hg)
            clear hg HM c0 c1 c2 c3 c4 c5 c6 c7
            have hrow := Lib.hid (Grommet.Own.row hO.out 1 rfl)
            obtain ⟨ii0, hi0, hz0, hz1, hz2⟩ := info_parts infoSl
            go_wp2_with (at_builtin; refine wpList_append_blk _ rfl _ _ 39 rfl 0 25 ii0 (.slice none 0 0) 1 24 Try.underlying39 hi0 hz0 hz1 hz2 rfl (by decide) _ m xs rfl (World.ownsRow.alloc hrow.out _) ⟨w7.heap.size, 0, none⟩ 1 1 [.slice ad6 L cap6] rfl rfl (at_of_row (heap_alloc_new w7 _)).some ?a1 ?a2 ?a3 (Nat.zero_le _) ?_)
            case a1 => simp [Value.oneCell']
            case a2 => unfold maxLen; have := Hmi.out; have := Hin.out; omega
            case a3 => have := Hmi.out; have := Hin.out; omega
            intro ad5 cap5 w8 hrow5 hg5 hnew5
            have hO5 := own_append (Grommet.Own.quiet hO.out (World.grownBy_alloc w7 (.cells #[.slice ad6 L cap6] 25) none)) 1 rfl hrow5 hg5 (fun g hg => by have := hnew5 g hg; rw [World.size_alloc]; exact this)
            obtain ⟨m', hm'⟩ : ∃ m', m + 1 = m' := ⟨_, rfl⟩
            rw [hm'] at hO5 Hs2 ⊢
            have hO5 : Hid (Grommet.Own w w8 [boxP G 24 r.cs, rowP 25 1 (.slice ad5 m' cap5) m' (xs ++ [.slice ad6 L cap6]), boxP V 24 (allC r f1 a1 s1)]) := Lib.hid hO5
            have Hm2 : Hid (m' ≤ i + 1) := Lib.hid (by have := Hmi.out; omega)
            clear hrow hrow5 hg5 hnew5 hO hm' Hmi hi0 hz0 hz1 hz2
            go_wp2
            go_roundw
            case rel => exact ⟨i + 1, m', ad5, cap5, _, Hin.out, by go_num, rfl, Hs2, Hm2, hO5⟩
            case measure => have := Hin.out; simp [intOf]; omega
        · obtain rfl : i = 6 := by omega
          have hlt' : ¬ ((6 : Nat) : Int) < 6 := by omega
          obtain ⟨n1, n2, n3⟩ := Hc.out
          rw [← Hm.out] at n1 n2 n3
          have c0 := (own_cellB hO.out 0 rfl 0 (u := .int .u8 (r.k : Int)) rfl).1
          have m2 : (m : Int) ≤ 2 := by omega
          clear Hc Hm Hmi hi hlt Hv Hw Hr Hmb Hfb
          obtain ⟨k, hk⟩ : ∃ k, r.k = k := ⟨_, rfl⟩
          rw [hk] at n2 n3 c0
          clear hk
          by_cases k2 : k = 2
          · have p1 : ((m : Int) == 1) = true := by rw [n2 k2]; rfl
            subst k2
            have q2 : (((2 : Nat) : Int) != 2) = false := by decide
            have q3 : (((2 : Nat) : Int) != 3) = true := by decide
            have q5 : (((2 : Nat) : Int) != 5) = true := by decide
            have q6 : (((2 : Nat) : Int) != 6) = true := by decide
            obtain ⟨k, hk2⟩ : ∃ k, (2 : Nat) = k := ⟨_, rfl⟩
            rw [hk2] at c0 q2 q3 q5 q6
            clear n1 n2 n3 hk2
            go_wp2_with fail
            refine (works_ev _).mono ?_
            rintro e w9 ⟨rfl, hg⟩
            go_wp2
            go_ret
            exact ⟨rfl, grown_trans hO.out.grown hg⟩
          · have q2 : ((k : Int) != 2) = true := by rw [bne_iff_ne]; omega
            by_cases k9 : k = 3 ∨ k = 5 ∨ k = 6
            · have p2 : ((m : Int) == 2) = true := by rw [n3 k9]; rfl
              clear n1 n2 n3
              rcases k9 with rfl | rfl | rfl
              · have q3 : (((3 : Nat) : Int) != 3) = false := by decide
                have q5 : (((3 : Nat) : Int) != 5) = true := by decide
                have q6 : (((3 : Nat) : Int) != 6) = true := by decide
                obtain ⟨k, hk2⟩ : ∃ k, (3 : Nat) = k := ⟨_, rfl⟩
                rw [hk2] at c0 q2 q3 q5 q6
                clear hk2
                go_wp2_with fail
                refine (works_ev _).mono ?_
                rintro e w9 ⟨rfl, hg⟩
                go_wp2
                go_ret
                exact ⟨rfl, grown_trans hO.out.grown hg⟩
              · have q3 : (((5 : Nat) : Int) != 3) = true := by decide
                have q5 : (((5 : Nat) : Int) != 5) = false := by decide
                have q6 : (((5 : Nat) : Int) != 6) = true := by decide
                obtain ⟨k, hk2⟩ : ∃ k, (5 : Nat) = k := ⟨_, rfl⟩
                rw [hk2] at c0 q2 q3 q5 q6
                clear hk2
                go_wp2_with fail
                refine (works_ev _).mono ?_
                rintro e w9 ⟨rfl, hg⟩
                go_wp2
                go_ret
                exact ⟨rfl, grown_trans hO.out.grown hg⟩
              · have q3 : (((6 : Nat) : Int) != 3) = true := by decide
                have q5 : (((6 : Nat) : Int) != 5) = true := by decide
                have q6 : (((6 : Nat) : Int) != 6) = false := by decide
                obtain ⟨k, hk2⟩ : ∃ k, (6 : Nat) = k := ⟨_, rfl⟩
                rw [hk2] at c0 q2 q3 q5 q6
                clear hk2
                go_wp2_with fail
                refine (works_ev _).mono ?_
                rintro e w9 ⟨rfl, hg⟩
                go_wp2
                go_ret
                exact ⟨rfl, grown_trans hO.out.grown hg⟩
            · have q3 : ((k : Int) != 3) = true := by rw [bne_iff_ne]; omega
              have q5 : ((k : Int) != 5) = true := by rw [bne_iff_ne]; omega
              have q6 : ((k : Int) != 6) = true := by rw [bne_iff_ne]; omega
              clear n1 n2 n3 k9 k2
              go_wp2_with fail
              refine (works_ev _).mono ?_
              rintro e w9 ⟨rfl, hg⟩
              go_wp2
              go_ret
              exact ⟨rfl, grown_trans hO.out.grown hg⟩

theorem walk (r : Rq) (w : World) (hr : r.Ok) (h1 : r.p.size ≤ 140737488351232) (h2 : r.t.size ≤ 140737488351232) (h3 : r.d.size ≤ 140737488351232) : Calls Try.prog 8 #[.agg r.cs] w (WorksOk w) := walk_r r hr h1 h2 h3 w
end requestOthers
end Go.Proofs.Ytlphmpimpeekcaa
