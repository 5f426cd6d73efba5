/- Package pmem: a line evicted. -/
import Derived.Test.YtimihchklecabaaPmE
namespace Go.Proofs.Ytimihchklecabaa
open Go.RowKit Go.Grommet Go.Shelf
attribute [local go_sem] Oper.semAt_some

set_option maxHeartbeats 1000000 in
theorem Evict_ok (w : World) (d g : Nat) (ws : List PW) (h : DevIs w d g ws) (i : Nat) (hi : i < ws.length / 8) :
    Calls Try.prog 21 #[ptr d, .int .i64 (i : Int)] w fun e w' => e = .returned (.int .i64 0) ∧ DevIs w' d g (turnFrom PW.evict (8 * i) 8 ws) ∧ w.grownBy w' (some g) := by
  have HW := Lib.hid (lines_any w d g ws h)
  have HH := Lib.hid (has_any w d (i : Int) (ws.length / 8))
  have hE : hasE (i : Int) (ws.length / 8) = 0 := by unfold hasE; rw [if_neg (by omega)]
  rw [hE] at HH
  unfold ptr at HW HH ⊢
  refine (callsIn_wide (n := 9)).1 ?_
  refine callsIn_of_wp_marks Try.func21 rfl trivial ?_ rfl
  simp only [Try.ntmps21, List.size_toArray, List.length_cons, List.length_nil, Nat.reduceAdd, Nat.reduceSub, Array.replicate_succ, Array.replicate_zero, List.push_toArray, List.append_toArray, List.nil_append, List.cons_append]
  have hrow := (Array.getElem?_eq_some_iff.1 h.row).1
  have hdd := (Array.getElem?_eq_some_iff.1 h.dev).1
  gi_wp2_with fail
  refine ⟨trivial, (callsIn_wide.2 HW.out).mono ?_⟩
  rintro e w1 ⟨rfl, rfl⟩
  gi_wp2_with fail
  refine ⟨trivial, (callsIn_wide.2 HH.out).mono ?_⟩
  rintro e w1 ⟨rfl, rfl⟩
  gi_wp2_with fail
  refine ⟨trivial, (callsIn_wide.2 (line_any w1 d i)).mono ?_⟩
  rintro e w2 ⟨rfl, hw2⟩
  obtain ⟨b1, b2, hg2, hs2, hk2⟩ := boxes_new w1 d i w2 hw2
  have hD2 := h.grown hg2
  clear hw2
  gi_wp2_with fail
  refine range_line (by decide) (bi := w1.heap.size + 1) (bd := w1.heap.size) (d := d) (g := g) (i := i) (n := ws.length) rfl rfl b1 b2 hD2.dev (by omega) h.fits
    (lineMap PW.evict i) ws (LineR w1 d g ws.length) (LineR.own (by omega) (by omega) (by omega)) ⟨hD2, rfl, grown_wide hg2, by omega⟩
    (fun x => { tmps := #[ptr d, .int .i64 (i : Int), undef, undef, .int .i64 0, .int .i64 0, wordAt g (8 * i + x), ptr d, .int .i64 (i : Int), ptr d, .int .i64 ((ws.length / 8 : Nat) : Int), .int .i64 0, .int .i64 0, .bool false, undef, ptr d, .int .i64 (i : Int), .func (.func 43) #[] #[ptr (w1.heap.size + 1), ptr w1.heap.size], wordAt g (8 * i + x), undef, undef, undef, undef, undef, undef, undef, undef, undef, undef, undef], defers := [] }) ?assign ?body ?done
  case assign =>
    intro l x W K hK
    gi_wp2
    exact hK
  case body =>
    rintro l s x W hx hL
    have hD := hL.dev
    have hl := hL.len
    obtain ⟨c, hc⟩ : ∃ c, s[8 * i + x]? = some c := ⟨_, List.getElem?_eq_getElem (by omega)⟩
    have hlt := (List.getElem?_eq_some_iff.1 hc).1
    obtain ⟨f0, f1, f2, f3, f4, f5⟩ := hD.get hc
    unfold lineMap
    rw [modify_set hc]
    unfold wordAt ptr
    generalize hk : 8 * i + x = k at hc hlt f0 f1 f2 f3 f4 f5 ⊢
    have HRo := Lib.hid (fun W' s' (a : DevIs W' d g s') (b : s'.length = s.length) (e : W.grownBy W' (some g)) => hL.round hrow a b e)
    cases hb : c.loose with
    | false =>
      rw [hb] at f2
      have hE : Hid (s.set k (PW.evict c) = s) := Lib.hid (by unfold PW.evict; rw [if_neg (by rw [hb]; decide)]; exact set_same hc)
      rw [hE.out]
      have hfin := Lib.hid (HRo.out W s hD rfl (World.grownBy.refl _ _))
      clear HRo hD hL hl hc hE
      gi_wp2
      exact hfin.out
    | true =>
      rw [hb] at f2
      have hsm := hD.of hc
      have HS := Lib.hid (settle_any W d g s hD k c hc c.seen hsm.2.1)
      have hE2 : Hid (s.set k (PW.evict c) = s.set k (settled c.seen c.seen)) := Lib.hid (by unfold PW.evict; rw [if_pos hb]; rfl)
      rw [hE2.out]
      have hle : (s.set k (settled c.seen c.seen)).length = s.length := by simp
      unfold wordAt at HS
      generalize s.set k (settled c.seen c.seen) = s' at HS hle ⊢
      clear hE2 hD hL hl hc
      gi_wp2_with fail
      refine ⟨trivial, (CallsIn.inRound l (callsIn_wide.2 HS.out)).mono ?_⟩
      rintro e W' ⟨⟨v, rfl⟩, hD', hg'⟩
      have hfin := Lib.hid (HRo.out _ _ hD' hle hg')
      clear HRo HS hD' hg'
      gi_wp2
      exact hfin.out
  case done =>
    rintro D W hD hL hK
    gi_wp2
    refine leaves_marks (B := w1.heap.size) _ (D + 1) W ⟨D, rfl, by omega, by omega, hK, trivial⟩ ?_
    intro w' hw'
    exact ⟨_, results_tmp rfl _ _ _, rfl, hL.leave hw'⟩
end Go.Proofs.Ytimihchklecabaa
