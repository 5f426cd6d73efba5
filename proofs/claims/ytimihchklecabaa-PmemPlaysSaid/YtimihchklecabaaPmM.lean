/- Package pmem: its calls over a device among a call's own things. -/
import Derived.Test.YtimihchklecabaaPmL
import Derived.Test.YtimihchklecabaaPmI
import Derived.Test.YtimihchklecabaaSame
namespace Go.Proofs.Ytimihchklecabaa
open Go.RowKit Go.Grommet Go.Shelf

theorem devs_words {w0 w : World} {Ps : List Pr} (h : Grommet.Own w0 w Ps) (k : Nat) {ad : Option Addr} {n cap : Nat} {ys : List Nat} (hk : Ps[k]? = some (rowP 32 1 (.slice ad n cap) n (ys.map wv))) (hs : ∀ n ∈ ys, n < 18446744073709551616) (hf : n ≤ 549755813888) :
    Words w ad n ys ∧ (ad = none → n = 0 ∧ cap = 0) ∧ n ≤ cap := by
  have hr := h.row k hk
  have hl := hr.1
  obtain ⟨ad', cap', he, hat, hnil, hc⟩ := row_slice hr
  cases he
  exact ⟨⟨by simpa using hl, hs, hat, by omega⟩, hnil, hc⟩

theorem StoreH (k d : Nat) (ws : List PW) (w0 w : World) (Ps : List Pr) (h : Grommet.Own w0 w Ps) (hk : Ps[k]? = some (devP d ws)) (a : Nat) (c : PW) (hc : ws[a]? = some c) (v : Nat) (hv : v < 18446744073709551616) :
    Calls Try.prog 15 #[ptr d, .int .i64 (a : Int), .int .u64 (v : Int)] w fun e w' => e = .returned (.int .i64 0) ∧ Grommet.Own w0 w' (Ps.set k (devP d (ws.modify a (·.store v)))) := by
  obtain ⟨g, hD, _, hO, _⟩ := dev_does h hk
  refine (Store_ok w d g ws hD a c hc v hv).mono ?_
  rintro e w' ⟨rfl, hD', hg⟩
  refine ⟨rfl, hO w' _ ?_ hg⟩
  rw [modify_set hc]; exact hD'
theorem FlushH (k d : Nat) (ws : List PW) (w0 w : World) (Ps : List Pr) (h : Grommet.Own w0 w Ps) (hk : Ps[k]? = some (devP d ws)) (i : Nat) (hi : i < ws.length / 8) :
    Calls Try.prog 17 #[ptr d, .int .i64 (i : Int)] w fun e w' => e = .returned (.int .i64 0) ∧ Grommet.Own w0 w' (Ps.set k (devP d (turnFrom PW.flush (8 * i) 8 ws))) := by
  obtain ⟨g, hD, _, hO, _⟩ := dev_does h hk
  refine (Flush_ok w d g ws hD i hi).mono ?_
  rintro e w' ⟨rfl, hD', hg⟩
  exact ⟨rfl, hO w' _ hD' hg⟩
theorem EvictH (k d : Nat) (ws : List PW) (w0 w : World) (Ps : List Pr) (h : Grommet.Own w0 w Ps) (hk : Ps[k]? = some (devP d ws)) (i : Nat) (hi : i < ws.length / 8) :
    Calls Try.prog 21 #[ptr d, .int .i64 (i : Int)] w fun e w' => e = .returned (.int .i64 0) ∧ Grommet.Own w0 w' (Ps.set k (devP d (turnFrom PW.evict (8 * i) 8 ws))) := by
  obtain ⟨g, hD, _, hO, _⟩ := dev_does h hk
  refine (Evict_ok w d g ws hD i hi).mono ?_
  rintro e w' ⟨rfl, hD', hg⟩
  exact ⟨rfl, hO w' _ hD' hg⟩
theorem FenceH (k d : Nat) (ws : List PW) (w0 w : World) (Ps : List Pr) (h : Grommet.Own w0 w Ps) (hk : Ps[k]? = some (devP d ws)) (N : Nat) (hN : ws.length = 8 * N) :
    Calls Try.prog 20 #[ptr d] w fun e w' => e = .returned (.int .i64 0) ∧ Grommet.Own w0 w' (Ps.set k (devP d (ws.map PW.fence))) := by
  obtain ⟨g, hD, _, hO, _⟩ := dev_does h hk
  refine (Fence_ok w d g ws hD N hN).mono ?_
  rintro e w' ⟨rfl, hD', hg⟩
  exact ⟨rfl, hO w' _ hD' hg⟩
theorem LooseH (k d : Nat) (ws : List PW) (w0 w : World) (Ps : List Pr) (h : Grommet.Own w0 w Ps) (hk : Ps[k]? = some (devP d ws)) (N : Nat) (hN : ws.length = 8 * N) :
    Calls Try.prog 25 #[ptr d] w fun e w' => e = .returned (.int .i64 (looseOf ws : Int)) ∧ Grommet.Own w0 w' Ps := by
  obtain ⟨g, hD, _, _, _⟩ := dev_does h hk
  refine (Loose_any w d g ws hD N hN).mono ?_
  rintro e w' ⟨rfl, hg⟩
  exact ⟨rfl, h.quiet hg⟩
/-- A loss of power, by picks that lay ahead of all. -/
theorem CrashOldH (k d : Nat) (ws : List PW) (w0 w : World) (Ps : List Pr) (h : Grommet.Own w0 w Ps) (hk : Ps[k]? = some (devP d ws)) (N : Nat) (hN : ws.length = 8 * N)
    (ad : Option Addr) (cp : Nat) (ps : List Nat) (hat : At w ad (ps.map u8v)) (hnil : ad = none → ps = []) (hcap : ps.length ≤ cp) (hoth : ps ≠ [] → ∀ a, ad = some a → a.block < w0.heap.size) (hsm : ∀ p ∈ ps, p < 256) (hpl : ps.length ≤ 1000000) :
    Calls Try.prog 24 #[ptr d, .slice ad ps.length cp] w fun e w' => e = .returned (.int .i64 0) ∧ Grommet.Own w0 w' (Ps.set k (devP d (crash ws ps))) := by
  obtain ⟨g, hD, hgw, hO, _⟩ := dev_does h hk
  have hsz := h.grown.size
  refine (Crash_ok w d g ws hD N hN ad cp ps hat hnil hcap (fun hne a ha => ⟨by have := hoth hne a ha; omega, by have := hoth hne a ha; omega⟩) hsm hpl).mono ?_
  rintro e w' ⟨rfl, hD', hg⟩
  exact ⟨rfl, hO w' _ hD' hg⟩
/-- A loss of power, by picks of the call's own. -/
theorem CrashRowH (k d m : Nat) (ws : List PW) (w0 w : World) (Ps : List Pr) (h : Grommet.Own w0 w Ps) (hk : Ps[k]? = some (devP d ws)) (N : Nat) (hN : ws.length = 8 * N)
    (ad : Option Addr) (cp : Nat) (ps : List Nat) (hm : Ps[m]? = some (rowP 5 1 (.slice ad ps.length cp) ps.length (ps.map u8v))) (hmk : m ≠ k) (hsm : ∀ p ∈ ps, p < 256) (hpl : ps.length ≤ 1000000) :
    Calls Try.prog 24 #[ptr d, .slice ad ps.length cp] w fun e w' => e = .returned (.int .i64 0) ∧ Grommet.Own w0 w' (Ps.set k (devP d (crash ws ps))) := by
  obtain ⟨g, hD, hgw, hO, hother⟩ := dev_does h hk
  obtain ⟨F, hF, hnF⟩ := hother m _ hm hmk
  obtain ⟨ad', cap', he, hat, hnil, hc⟩ := row_slice hF.1
  cases he
  have hblk : ∀ a, ad = some a → F a.block := fun a ha => hF.2.1 a.block (by
    rcases hF.1.2 with ⟨h1, _⟩ | ⟨g', c', cur, h1, _⟩
    · rw [Value.slice.injEq] at h1; rw [h1.1] at ha; cases ha
    · rw [Value.slice.injEq] at h1; rw [h1.1] at ha; cases ha; rw [h1.1]; rfl)
  refine (Crash_ok w d g ws hD N hN ad cp ps hat (fun e => List.eq_nil_of_length_eq_zero (hnil e).1) hc (fun _ a ha => ⟨fun e => hnF (by rw [← e]; exact hblk a ha), hF.2.2 _ (hblk a ha)⟩) hsm hpl).mono ?_
  rintro e w' ⟨rfl, hD', hg⟩
  exact ⟨rfl, hO w' _ hD' hg⟩

set_option maxHeartbeats 1000000 in
theorem SureH (k d : Nat) (ws : List PW) (w0 w : World) (Ps : List Pr) (h : Grommet.Own w0 w Ps) (hk : Ps[k]? = some (devP d ws)) (N : Nat) (hN : ws.length = 8 * N) :
    Calls Try.prog 28 #[ptr d] w fun e w' => ∃ ad cap, e = .returned (.slice ad ws.length cap) ∧ Grommet.Own w0 w' (Ps ++ [rowP 32 1 (.slice ad ws.length cap) ws.length ((ws.map (·.sure)).map wv)]) := by
  obtain ⟨g, hD, _, _, _⟩ := dev_does h hk
  have HA := Lib.hid (allSure_any w d g ws hD N hN)
  have hq := Lib.hid (fun (w' : World) (v : Value) (hr : w'.ownsRow w.heap.size 32 1 v ws.length (ws.map fun c => wv c.sure)) (hg : w.grownBy w' none) => h.addRow hr hg)
  have hmap : (ws.map fun c => wv c.sure) = (ws.map (·.sure)).map wv := by rw [List.map_map]; rfl
  rw [← hmap]
  unfold ptr at HA ⊢
  clear h hk hD hN
  generalize (ws.map fun c => wv c.sure) = xs at HA hq ⊢
  generalize ws.length = n at HA hq ⊢
  go_enter Try.func28, Try.ntmps28
  go_wp2_with fail
  refine HA.out.mono ?_
  rintro e w1 ⟨v, rfl, hr, hg⟩
  have hO := Lib.hid (hq.out w1 v hr hg)
  obtain ⟨ad, cap, rfl, _⟩ := row_slice hr
  clear hr hg hq HA
  go_wp2
  go_ret
  exact ⟨ad, cap, rfl, hO.out⟩
set_option maxHeartbeats 1000000 in
theorem SeenH (k d : Nat) (ws : List PW) (w0 w : World) (Ps : List Pr) (h : Grommet.Own w0 w Ps) (hk : Ps[k]? = some (devP d ws)) (N : Nat) (hN : ws.length = 8 * N) :
    Calls Try.prog 31 #[ptr d] w fun e w' => ∃ ad cap, e = .returned (.slice ad ws.length cap) ∧ Grommet.Own w0 w' (Ps ++ [rowP 32 1 (.slice ad ws.length cap) ws.length ((ws.map (·.seen)).map wv)]) := by
  obtain ⟨g, hD, _, _, _⟩ := dev_does h hk
  have HA := Lib.hid (allSeen_any w d g ws hD N hN)
  have hq := Lib.hid (fun (w' : World) (v : Value) (hr : w'.ownsRow w.heap.size 32 1 v ws.length (ws.map fun c => wv c.seen)) (hg : w.grownBy w' none) => h.addRow hr hg)
  have hmap : (ws.map fun c => wv c.seen) = (ws.map (·.seen)).map wv := by rw [List.map_map]; rfl
  rw [← hmap]
  unfold ptr at HA ⊢
  clear h hk hD hN
  generalize (ws.map fun c => wv c.seen) = xs at HA hq ⊢
  generalize ws.length = n at HA hq ⊢
  go_enter Try.func31, Try.ntmps31
  go_wp2_with fail
  refine HA.out.mono ?_
  rintro e w1 ⟨v, rfl, hr, hg⟩
  have hO := Lib.hid (hq.out w1 v hr hg)
  obtain ⟨ad, cap, rfl, _⟩ := row_slice hr
  clear hr hg hq HA
  go_wp2
  go_ret
  exact ⟨ad, cap, rfl, hO.out⟩
end Go.Proofs.Ytimihchklecabaa
