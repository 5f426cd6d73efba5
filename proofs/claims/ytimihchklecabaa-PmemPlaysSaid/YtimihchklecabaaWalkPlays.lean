/- PmemPlays, walked. -/
import Derived.Test.YtimihchklecabaaRdC
import Derived.Test.YtimihchklecabaaRdD
import Derived.Test.YtimihchklecabaaRdE
import Derived.Test.YtimihchklecabaaRdF
import Derived.Test.YtimihchklecabaaRdG
import Derived.Test.YtimihchklecabaaRdH
import Derived.Test.YtimihchklecabaaRdI
import Derived.Test.YtimihchklecabaaWorks
import Derived.Deep.DeepCutAuto
import Derived.Deep.CutBlock
import Derived.Deep.RegionHeld
namespace Go.Proofs.Ytimihchklecabaa.pmemPlays
open Go.RowKit Go.Grommet Go.Shelf

def S4 (Z : Nat) (x0 x1 x2 : Int) (pa : Option Addr) (pl pc : Nat) (w : World) : Prop := w.heap[Z]? = some (.cells #[.int .u8 x0, .int .i64 x1, .int .u64 x2, .slice pa pl pc] 35 (0, 0))
theorem S4.facts {Z : Nat} {x0 x1 x2 : Int} {pa : Option Addr} {pl pc : Nat} {w : World} (h : S4 Z x0 x1 x2 pa pl pc w) : w.cell? ⟨Z, 0, none⟩ = some (.int .u8 x0) ∧ w.cell? ⟨Z, 1, none⟩ = some (.int .i64 x1) ∧ w.cell? ⟨Z, 2, none⟩ = some (.int .u64 x2) ∧ w.cell? ⟨Z, 3, none⟩ = some (.slice pa pl pc) := by
  unfold S4 at h
  simp [World.cell?, h]
theorem same_own {w0 w : World} {Ps : List Pr} (h : Grommet.Own w0 w Ps) {P : Program} {f : Nat} {args : Array Value} {x : Ending} (hc : Calls P f args w fun e w' => e = x ∧ w' = w) : Calls P f args w fun e w' => e = x ∧ Grommet.Own w0 w' Ps := hc.mono (by rintro e w' ⟨rfl, rfl⟩; exact ⟨rfl, h⟩)
theorem store_smallR {rs : List RW} {k : Nat} {r : RW} {v : Nat} (h : ∀ c ∈ rs, c.Small) (hr : rs[k]? = some r) (hv : v < 18446744073709551616) : ∀ c ∈ rs.modify k (RW.store v), c.Small := by
  intro c hc
  rw [rmodify_set hr] at hc
  rcases List.mem_or_eq_of_mem_set hc with e | e
  · exact h c e
  · rw [e]
    have := h r (List.mem_of_getElem? hr)
    exact ⟨this.1, hv, this.2.2⟩
theorem LoadOkH (k d : Nat) (ws : List PW) (i : Nat) (c : PW) (hc : ws[i]? = some c) (w0 w : World) (Ps : List Pr) (h : Grommet.Own w0 w Ps) (hk : Ps[k]? = some (devP d ws)) :
    Calls Try.prog 13 #[ptr d, .int .i64 (i : Int)] w fun e w' => e = .returned (.tuple #[.int .u64 (c.seen : Int), .int .i64 0]) ∧ Grommet.Own w0 w' Ps := by
  obtain ⟨g, hD, _⟩ := dev_does h hk
  exact same_own h (Load_ok w d g ws hD i c hc)
theorem LoadNoH (k d : Nat) (ws : List PW) (a : Int) (hE : hasE a ws.length = 8) (w0 w : World) (Ps : List Pr) (h : Grommet.Own w0 w Ps) (hk : Ps[k]? = some (devP d ws)) :
    Calls Try.prog 13 #[ptr d, .int .i64 a] w fun e w' => e = .returned (.tuple #[.int .u64 0, .int .i64 8]) ∧ Grommet.Own w0 w' Ps := by
  obtain ⟨g, hD, _⟩ := dev_does h hk
  exact same_own h (Load_no w d g ws hD a hE)
theorem StoreNoH (k d : Nat) (ws : List PW) (a : Int) (v : Nat) (hE : hasE a ws.length = 8) (w0 w : World) (Ps : List Pr) (h : Grommet.Own w0 w Ps) (hk : Ps[k]? = some (devP d ws)) :
    Calls Try.prog 15 #[ptr d, .int .i64 a, .int .u64 (v : Int)] w fun e w' => e = .returned (.int .i64 8) ∧ Grommet.Own w0 w' Ps := by
  obtain ⟨g, hD, _⟩ := dev_does h hk
  exact same_own h (Store_no w d g ws hD a v hE)
theorem PFlushNoH (k d : Nat) (ws : List PW) (a : Int) (hE : hasE a (ws.length / 8) = 8) (w0 w : World) (Ps : List Pr) (h : Grommet.Own w0 w Ps) (hk : Ps[k]? = some (devP d ws)) :
    Calls Try.prog 17 #[ptr d, .int .i64 a] w fun e w' => e = .returned (.int .i64 8) ∧ Grommet.Own w0 w' Ps := by
  obtain ⟨g, hD, _⟩ := dev_does h hk
  exact same_own h (PFlush_no w d g ws hD a hE)
theorem PEvictNoH (k d : Nat) (ws : List PW) (a : Int) (hE : hasE a (ws.length / 8) = 8) (w0 w : World) (Ps : List Pr) (h : Grommet.Own w0 w Ps) (hk : Ps[k]? = some (devP d ws)) :
    Calls Try.prog 21 #[ptr d, .int .i64 a] w fun e w' => e = .returned (.int .i64 8) ∧ Grommet.Own w0 w' Ps := by
  obtain ⟨g, hD, _⟩ := dev_does h hk
  exact same_own h (PEvict_no w d g ws hD a hE)
theorem WordsH (k d : Nat) (ws : List PW) (w0 w : World) (Ps : List Pr) (h : Grommet.Own w0 w Ps) (hk : Ps[k]? = some (devP d ws)) :
    Calls Try.prog 27 #[ptr d] w fun e w' => e = .returned (.int .i64 (ws.length : Int)) ∧ Grommet.Own w0 w' Ps := by
  obtain ⟨g, hD, _⟩ := dev_does h hk
  exact same_own h (Words_any w d g ws hD)
theorem dev_small {k d : Nat} {ws : List PW} {w0 w : World} {Ps : List Pr} (h : Grommet.Own w0 w Ps) (hk : Ps[k]? = some (devP d ws)) : ∀ c ∈ ws, c.Small := by
  obtain ⟨g, hD, _⟩ := dev_does h hk
  exact hD.small

set_option maxRecDepth 100000 in
set_option maxHeartbeats 1000000 in
theorem walk_far (a : Int) (td : Option Addr) (tl tc : Nat) (L : List Pst) (w : World) (hL : PstsIn w td tl L) (h : ¬ (tl ≤ 200 ∧ ∀ x ∈ L, x.pl ≤ 100) ∨ 512 < a) :
    Calls Try.prog 3 #[.int .i64 a, .slice td tl tc] w (Go.Ev.WorksIs w) := by
  have HW := Lib.hid (works_ev w)
  cases hb : decide (tl ≤ 200 ∧ ∀ x ∈ L, x.pl ≤ 100) with
  | false =>
    have HF := Lib.hid (few_any td tl tc L w hL false hb)
    clear h hb hL
    go_enter Try.func3, Try.ntmps3
    go_wp2_with fail
    refine HF.out.mono ?_
    rintro e w1 ⟨rfl, rfl⟩
    go_wp2_with fail
    refine HW.out.mono ?_
    rintro e w5 ⟨rfl, hg⟩
    go_wp2
    go_ret
    exact ⟨rfl, hg⟩
  | true =>
    have HF := Lib.hid (few_any td tl tc L w hL true hb)
    have h2 : (512 : Int) < a := by
      rcases h with h | h
      · exact absurd (of_decide_eq_true hb) h
      · exact h
    clear h hb hL
    go_enter Try.func3, Try.ntmps3
    go_wp2_with fail
    refine HF.out.mono ?_
    rintro e w1 ⟨rfl, rfl⟩
    go_wp2_with fail
    refine HW.out.mono ?_
    rintro e w5 ⟨rfl, hg⟩
    go_wp2
    go_ret
    exact ⟨rfl, hg⟩
set_option maxRecDepth 100000 in
set_option maxHeartbeats 1000000 in
theorem walk_no (a : Int) (td : Option Addr) (tl tc : Nat) (L : List Pst) (w : World) (hL : PstsIn w td tl L) (hb : decide (tl ≤ 200 ∧ ∀ x ∈ L, x.pl ≤ 100) = true) (ha : a ≤ 512) (h : a < 8 ∨ 512 < a ∨ a % 8 ≠ 0) :
    Calls Try.prog 3 #[.int .i64 a, .slice td tl tc] w (Go.Ev.WorksIs w) := by
  have HW := Lib.hid (works_ev w)
  have HF := Lib.hid (few_any td tl tc L w hL true hb)
  have HP := Lib.hid (PNew_no a w h ha)
  have HQ := Lib.hid (RNew_no a w h ha)
  have h2 : ¬ (512 : Int) < a := by omega
  clear h hb hL ha
  go_enter Try.func3, Try.ntmps3
  go_wp2_with fail
  refine HF.out.mono ?_
  rintro e w1 ⟨rfl, rfl⟩
  go_wp2_with fail
  refine HP.out.mono ?_
  rintro e w1 ⟨rfl, rfl⟩
  go_wp2_with fail
  refine HQ.out.mono ?_
  rintro e w1 ⟨rfl, rfl⟩
  go_wp2_with fail
  refine HW.out.mono ?_
  rintro e w5 ⟨rfl, hg⟩
  go_wp2
  go_ret
  exact ⟨rfl, hg⟩

set_option maxRecDepth 100000 in
set_option maxHeartbeats 16000000 in
theorem walk_at (n N : Nat) (td : Option Addr) (tl tc : Nat) (T : List Pst) (w : World) (hT : PstsIn w td tl T) (hb : decide (tl ≤ 200 ∧ ∀ x ∈ T, x.pl ≤ 100) = true) (h8 : 8 ≤ n) (hn5 : n ≤ 512) (hN : n = 8 * N) :
    Calls Try.prog 3 #[.int .i64 (n : Int), .slice td tl tc] w (Go.Ev.WorksIs w) := by
  have HF := Lib.hid (few_any td tl tc T w hT true hb)
  have HP := Lib.hid (NewH n w w [] (Own.nil w) h8 (by omega) (by omega))
  have HQ := Lib.hid (fun wx Ps (hO : Grommet.Own w wx Ps) => RNew_yes n w wx Ps hO h8 (by omega) (by omega))
  have h2 : ¬ (512 : Int) < (n : Int) := by omega
  have HT := Lib.hid hT
  have Hb := Lib.hid (of_decide_eq_true hb)
  have HN := Lib.hid hN
  have htl : tl ≤ 200 := Hb.out.1
  clear hb hT hN
  go_enter Try.func3, Try.ntmps3
  go_wp2_with fail
  refine HF.out.mono ?_
  rintro e w1 ⟨rfl, hw1⟩
  obtain rfl : w = w1 := hw1.symm
  clear HF
  go_wp2_with fail
  refine HP.out.mono ?_
  rintro e w1 ⟨d, rfl, hO1⟩
  have HQ2 := Lib.hid (HQ.out w1 _ hO1)
  clear HP HQ hO1
  unfold ptr at *
  go_wp2_with fail
  refine HQ2.out.mono ?_
  rintro e w2 ⟨d2, g, rfl, hO2⟩
  have hO2 : Hid (Grommet.Own w w2 [devP d (List.replicate n PW.nought), rowR g n (List.replicate n RW.nought), boxR d2 g n]) := Lib.hid hO2
  clear HQ2
  have HL0 : Hid ((List.replicate n RW.nought).length = n) := Lib.hid (by simp)
  have HS0 : Hid (∀ c ∈ List.replicate n RW.nought, c.Small) := Lib.hid (by intro c hc; rw [List.eq_of_mem_replicate hc]; exact ⟨by decide, by decide, by decide⟩)
  have HR0 : Hid (Rel (List.replicate n PW.nought) (List.replicate n RW.nought)) := Lib.hid ⟨by simp, fun k c r hc hr => by
    have e1 := List.eq_of_mem_replicate (List.mem_of_getElem? hc)
    have e2 := List.eq_of_mem_replicate (List.mem_of_getElem? hr)
    rw [e1, e2]; exact OkW.nought⟩
  unfold ptr
  go_wp2_with fail
  go_loopw [9] (fun i wr => ∃ (k : Nat) (ws : List PW) (rs : List RW), k ≤ tl ∧ i = .int .i64 (k : Int) ∧ Hid (Rel ws rs) ∧ Hid (rs.length = n) ∧ Hid (∀ c ∈ rs, c.Small) ∧ Hid (Grommet.Own w wr [devP d (ws), rowR g n (rs), boxR d2 g n])) (fun i _ => tl - (intOf i).toNat)
  case atStart => exact ⟨0, _, _, Nat.zero_le _, rfl, HR0, HL0, HS0, hO2⟩
  case round =>
    clear hO2 HR0 HL0 HS0
    obtain ⟨k, ws, rs, hk, rfl, HRl, HLen, HSml, hO⟩ := hrel
    have Hwl : Hid (ws.length = n) := Lib.hid (by rw [HRl.out.len]; exact HLen.out)
    have k0 : (0 : Int) ≤ (k : Int) := by omega
    by_cases hlt : k < tl
    · have hlt' : (k : Int) < (tl : Int) := by omega
      have hkL : k < T.length := by rw [HT.out.1]; exact hlt
      obtain ⟨x, hx⟩ : ∃ x, T[k]? = some x := ⟨T[k], List.getElem?_eq_getElem hkL⟩
      have hmem := List.mem_of_getElem? hx
      have hok := HT.out.2.1 x hmem
      have hp100 := Hb.out.2 x hmem
      have hatw := (HT.out.2.2 k x hx).2
      obtain ⟨⟨tg, to', rfl, c0, c1, c2, c3⟩, hx9⟩ := (HT.out.grown hO.out.grown).2.2 k x hx
      clear hx9 hx hmem hkL
      obtain ⟨xd, A, xv, pa, pl, pc, ps⟩ := x
      obtain ⟨o1, o2, o3, o4, o5, o6, o7⟩ := hok
      dsimp only at c0 c1 c2 c3 o1 o2 o3 o4 o5 o6 o7 hp100 hatw
      have b1 := bounds_u8 o1
      have b2 := bounds_i64 o2
      have b3 := bounds_u64 o3
      obtain ⟨D, rfl⟩ := Int.eq_ofNat_of_zero_le b1.1
      obtain ⟨V, rfl⟩ := Int.eq_ofNat_of_zero_le b3.1
      have hV : Hid (V < 18446744073709551616) := Lib.hid (by omega)
      have Hps : Hid (At w pa (ps.map u8v) ∧ ps.length = pl ∧ pl ≤ pc ∧ (∀ p ∈ ps, p < 256) ∧ (pa = none → ps = []) ∧ (ps ≠ [] → ∀ aa, pa = some aa → aa.block < w.heap.size) ∧ ps.length ≤ 1000000) := Lib.hid ⟨hatw, o4, o5, o6, o7, (fun hne aa ha => by
          have hl : 0 < ps.length := List.length_pos_iff.2 hne
          obtain ⟨q, o, he, hc⟩ := hatw 0 (u8v ps[0]) (by rw [List.getElem?_map, List.getElem?_eq_getElem hl]; rfl)
          rw [he] at ha
          cases ha
          exact World.block_lt_of_cell? _ _ hc), by omega⟩
      obtain ⟨rr, Hr⟩ : ∃ r, Hid (r = D % 6) := ⟨_, Lib.hid rfl⟩
      have hr5 : rr < 6 := by rw [Hr.out]; omega
      have e5 : (D : Int) % 6 = (rr : Int) := by rw [Hr.out]; omega
      have e5' : Int.tmod (D : Int) 6 = (rr : Int) := by rw [Int.tmod_eq_emod_of_nonneg (by omega)]; exact e5
      have wr5 : IntKind.u8.wrap (rr : Int) = (rr : Int) := IntWalk.u8_in _ ⟨by omega, by omega⟩
      have hOx : Grommet.Own w (wr.alloc (.cells #[.int .u8 (D : Int), .int .i64 A, .int .u64 (V : Int), .slice pa pl pc] 35)) [devP d ws, rowR g n rs, boxR d2 g n, boxP wr.heap.size 35 #[.int .u8 (D : Int), .int .i64 A, .int .u64 (V : Int), .slice pa pl pc]] := hO.out.addBox _ _
      have hOx := Lib.hid hOx
      clear o1 o2 o3 o4 o5 o6 o7 hp100 hatw b1 b3 hO
      go_upto_region 13 with fail
      obtain ⟨w5, hw5⟩ : ∃ w5, wr.alloc (.cells #[.int .u8 (D : Int), .int .i64 A, .int .u64 (V : Int), .slice pa pl pc] 35) = w5 := ⟨_, rfl⟩
      obtain ⟨Z, hZ⟩ : ∃ Z, wr.heap.size = Z := ⟨_, rfl⟩
      rw [hw5, hZ] at hOx
      rw [hZ]
      change Code.wp _ _ _ _ (wr.alloc (.cells #[.int .u8 (D : Int), .int .i64 A, .int .u64 (V : Int), .slice pa pl pc] 35))
      rw [hw5]
      have hO8 := hOx
      clear hw5 hZ c0 c1 c2 c3 hOx
      obtain ⟨y0, y1, y2, y3⟩ := S4.facts (show S4 Z (D : Int) A (V : Int) pa pl pc w5 from hO8.out.box 3 rfl)
      go_upto_block 2 with fail
      go_cut [11, 12, 13, 14, 15] (fun sv _ _ _ _ wx => ∃ (ws2 : List PW) (rs2 : List RW), sv = .bool true ∧ Hid (Rel ws2 rs2) ∧ Hid (rs2.length = n) ∧ Hid (∀ c ∈ rs2, c.Small) ∧ Hid (Grommet.Own w wx [devP d (ws2), rowR g n (rs2), boxR d2 g n, boxP Z 35 #[.int .u8 (D : Int), .int .i64 A, .int .u64 (V : Int), .slice pa pl pc]]))
      case first =>
        have hr : rr = 0 ∨ rr = 1 ∨ rr = 2 ∨ rr = 3 ∨ rr = 4 ∨ rr = 5 := by omega
        clear hr5
        rcases hr with hr | hr | hr | hr | hr | hr
        · have HR := Lib.hid hr
          clear hr
          have q0 : ((rr : Int) == 0) = true := by rw [HR.out]; rfl
          by_cases hin : 0 ≤ A ∧ A < (n : Int)
          · obtain ⟨i, rfl⟩ := Int.eq_ofNat_of_zero_le hin.1
            have hil : i < ws.length := by have := Hwl.out; omega
            have hil2 : i < rs.length := by rw [HLen.out]; omega
            obtain ⟨c, hc⟩ : ∃ c, ws[i]? = some c := ⟨ws[i], List.getElem?_eq_getElem hil⟩
            obtain ⟨r, hrr⟩ : ∃ r, rs[i]? = some r := ⟨rs[i], List.getElem?_eq_getElem hil2⟩
            have hse := (HRl.out.ok i c r hc hrr).seen
            have HA := Lib.hid (LoadOkH 0 d ws i c hc w _ _ hO8.out rfl)
            have HB := Lib.hid (fun wx (hO : Grommet.Own w wx [devP d (ws), rowR g n (rs), boxR d2 g n, boxP Z 35 #[.int .u8 (D : Int), .int .i64 (i : Int), .int .u64 (V : Int), .slice pa pl pc]]) => same_own hO (RLoad_ok 2 1 d2 g n rs i r hrr w wx _ hO (⟨rfl, rfl, by decide, HLen.out, HSml.out, by omega⟩ : RD [devP d (ws), rowR g n (rs), boxR d2 g n, boxP Z 35 #[.int .u8 (D : Int), .int .i64 (i : Int), .int .u64 (V : Int), .slice pa pl pc]] 2 1 d2 g n (rs))))
            rw [hse] at HA
            obtain ⟨u, hu⟩ : ∃ u, r.seen = u := ⟨_, rfl⟩
            rw [hu] at HA HB
            have qu : ((u : Int) == (u : Int)) = true := by simp
            clear hin hc hrr hse hu hO8 hil hil2
            go_wp2_with fail
            refine HA.out.mono ?_
            rintro e w6 ⟨rfl, hO6⟩
            have HB2 := Lib.hid (HB.out w6 hO6)
            obtain ⟨y0, y1, y2, y3⟩ := S4.facts (show S4 Z (D : Int) (i : Int) (V : Int) pa pl pc w6 from hO6.box 3 rfl)
            clear HA HB hO6
            go_wp2_with fail
            refine HB2.out.mono ?_
            rintro e w7 ⟨rfl, hO7⟩
            have hO7 := Lib.hid hO7
            clear HB2
            go_wp2_with fail
            go_meet
            case rel => exact ⟨_, _, rfl, HRl, HLen, HSml, hO7⟩
          · have HA := Lib.hid (LoadNoH 0 d ws A (by unfold hasE; rw [if_pos (by have := Hwl.out; omega)]) w _ _ hO8.out rfl)
            have HB := Lib.hid (fun wx (hO : Grommet.Own w wx [devP d (ws), rowR g n (rs), boxR d2 g n, boxP Z 35 #[.int .u8 (D : Int), .int .i64 A, .int .u64 (V : Int), .slice pa pl pc]]) => same_own hO (RLoad_no 2 1 d2 g n rs A (by omega) w wx _ hO (⟨rfl, rfl, by decide, HLen.out, HSml.out, by omega⟩ : RD [devP d (ws), rowR g n (rs), boxR d2 g n, boxP Z 35 #[.int .u8 (D : Int), .int .i64 A, .int .u64 (V : Int), .slice pa pl pc]] 2 1 d2 g n (rs))))
            clear hin hO8
            go_wp2_with fail
            refine HA.out.mono ?_
            rintro e w6 ⟨rfl, hO6⟩
            have HB2 := Lib.hid (HB.out w6 hO6)
            obtain ⟨y0, y1, y2, y3⟩ := S4.facts (show S4 Z (D : Int) A (V : Int) pa pl pc w6 from hO6.box 3 rfl)
            clear HA HB hO6
            go_wp2_with fail
            refine HB2.out.mono ?_
            rintro e w7 ⟨rfl, hO7⟩
            have hO7 := Lib.hid hO7
            clear HB2
            go_wp2_with fail
            go_meet
            case rel => exact ⟨_, _, rfl, HRl, HLen, HSml, hO7⟩
        · have HR := Lib.hid hr
          clear hr
          have q0 : ((rr : Int) == 0) = false := by rw [HR.out]; rfl
          have q1 : ((rr : Int) == 1) = true := by rw [HR.out]; rfl
          by_cases hin : 0 ≤ A ∧ A < (n : Int)
          · obtain ⟨i, rfl⟩ := Int.eq_ofNat_of_zero_le hin.1
            have hil : i < ws.length := by have := Hwl.out; omega
            have hil2 : i < rs.length := by rw [HLen.out]; omega
            obtain ⟨c, hc⟩ : ∃ c, ws[i]? = some c := ⟨ws[i], List.getElem?_eq_getElem hil⟩
            obtain ⟨r, hrr⟩ : ∃ r, rs[i]? = some r := ⟨rs[i], List.getElem?_eq_getElem hil2⟩
            clear hin
            have HA := Lib.hid (fun wx (hO : Grommet.Own w wx [devP d (ws), rowR g n (rs), boxR d2 g n, boxP Z 35 #[.int .u8 (D : Int), .int .i64 (i : Int), .int .u64 (V : Int), .slice pa pl pc]]) => StoreH 0 d ws w wx _ hO rfl i c hc V hV.out)
            have HB := Lib.hid (fun wx (hO : Grommet.Own w wx [devP d (ws.modify i (·.store V)), rowR g n (rs), boxR d2 g n, boxP Z 35 #[.int .u8 (D : Int), .int .i64 (i : Int), .int .u64 (V : Int), .slice pa pl pc]]) => RStore_ok 2 1 d2 g n rs i r hrr V w wx _ hO (⟨rfl, rfl, by decide, HLen.out, HSml.out, by omega⟩ : RD [devP d (ws.modify i (·.store V)), rowR g n (rs), boxR d2 g n, boxP Z 35 #[.int .u8 (D : Int), .int .i64 (i : Int), .int .u64 (V : Int), .slice pa pl pc]] 2 1 d2 g n (rs)))
            have hOr := Lib.hid (hO8.out.quiet (grown_drew (World.grownBy.refl _ none)))
            have hz0 : Hid (S4 Z (D : Int) (i : Int) (V : Int) pa pl pc _) := Lib.hid (hOr.out.box 3 rfl)
            have HRel := Lib.hid (HRl.out.modify (fun c r hcr => OkW.store hcr V) i)
            have HLn : Hid ((rs.modify i (RW.store V)).length = n) := Lib.hid (by rw [List.length_modify]; exact HLen.out)
            have HSm : Hid (∀ c ∈ (rs.modify i (RW.store V)), c.Small) := Lib.hid (store_smallR HSml.out hrr hV.out)
            clear hO8 y0 y1 y2 y3
            go_wp2_with fail
            refine wp_region_held_drew (S := fun w' => S4 Z (D : Int) (i : Int) (V : Int) pa pl pc w') (by kernel_rfl) (hz0.out) (fun hS => ?_)
            refine wpAnyH_take (i := 0) (oi := { dst := some 97, op := Op.move (Operand.tmp 5), type := 25, pos := "law.go:80", after := #[], guard := none }) (v := ?vsa3r22o0) rfl (by kernel_rfl) (by kernel_rfl) (by kernel_rfl) (fun _ _ _ h => h) (Or.inl ⟨by rfl, ?hsa3r22o0⟩) hS ?_
            case hsa3r22o0 => (intro wx hx; skip; go_simp; (try with_reducible rfl))
            try simp only [Act.put, List.setIfInBounds_toArray, List.set_cons_zero, List.set_cons_succ]
            refine wpAnyH_take (i := 1) (oi := { dst := some 98, op := Op.fieldAddr 35 (Operand.tmp 10) 1, type := 0, pos := "law.go:80", after := #[], guard := none }) (v := ?vsa3r22o1) rfl (by kernel_rfl) (by kernel_rfl) (by kernel_rfl) (fun _ _ _ h => h) (Or.inl ⟨by rfl, ?hsa3r22o1⟩) hS ?_
            case hsa3r22o1 => (intro wx hx; skip; go_simp; (try with_reducible rfl))
            try simp only [Act.put, List.setIfInBounds_toArray, List.set_cons_zero, List.set_cons_succ]
            refine wpAnyH_take (i := 2) (oi := { dst := some 99, op := Op.load 3 (Operand.tmp 98), type := 3, pos := "law.go:80", after := #[{ on := 1, ground := Ground.data }], guard := none }) (v := ?vsa3r22o2) rfl (by kernel_rfl) (by kernel_rfl) (by kernel_rfl) (fun _ _ _ h => h) (Or.inl ⟨by rfl, ?hsa3r22o2⟩) hS ?_
            case hsa3r22o2 => (intro wx hx; obtain ⟨y0, y1, y2, y3⟩ := S4.facts hx; go_simp; (try with_reducible rfl))
            try simp only [Act.put, List.setIfInBounds_toArray, List.set_cons_zero, List.set_cons_succ]
            refine wpAnyH_take (i := 3) (oi := { dst := some 100, op := Op.fieldAddr 35 (Operand.tmp 10) 2, type := 0, pos := "law.go:80", after := #[], guard := none }) (v := ?vsa3r22o3) rfl (by kernel_rfl) (by kernel_rfl) (by kernel_rfl) (fun _ _ _ h => h) (Or.inl ⟨by rfl, ?hsa3r22o3⟩) hS ?_
            case hsa3r22o3 => (intro wx hx; skip; go_simp; (try with_reducible rfl))
            try simp only [Act.put, List.setIfInBounds_toArray, List.set_cons_zero, List.set_cons_succ]
            refine wpAnyH_take (i := 4) (oi := { dst := some 101, op := Op.load 32 (Operand.tmp 100), type := 32, pos := "law.go:80", after := #[{ on := 3, ground := Ground.data }], guard := none }) (v := ?vsa3r22o4) rfl (by kernel_rfl) (by kernel_rfl) (by kernel_rfl) (fun _ _ _ h => h) (Or.inl ⟨by rfl, ?hsa3r22o4⟩) hS ?_
            case hsa3r22o4 => (intro wx hx; obtain ⟨y0, y1, y2, y3⟩ := S4.facts hx; go_simp; (try with_reducible rfl))
            try simp only [Act.put, List.setIfInBounds_toArray, List.set_cons_zero, List.set_cons_succ]
            refine wpAnyH_take (i := 6) (oi := { dst := some 103, op := Op.move (Operand.tmp 7), type := 29, pos := "law.go:80", after := #[], guard := none }) (v := ?vsa3r22o6) rfl (by kernel_rfl) (by kernel_rfl) (by kernel_rfl) (fun _ _ _ h => h) (Or.inl ⟨by rfl, ?hsa3r22o6⟩) hS ?_
            case hsa3r22o6 => (intro wx hx; skip; go_simp; (try with_reducible rfl))
            try simp only [Act.put, List.setIfInBounds_toArray, List.set_cons_zero, List.set_cons_succ]
            refine wpAnyH_take (i := 7) (oi := { dst := some 104, op := Op.fieldAddr 35 (Operand.tmp 10) 1, type := 0, pos := "law.go:80", after := #[], guard := none }) (v := ?vsa3r22o7) rfl (by kernel_rfl) (by kernel_rfl) (by kernel_rfl) (fun _ _ _ h => h) (Or.inl ⟨by rfl, ?hsa3r22o7⟩) hS ?_
            case hsa3r22o7 => (intro wx hx; skip; go_simp; (try with_reducible rfl))
            try simp only [Act.put, List.setIfInBounds_toArray, List.set_cons_zero, List.set_cons_succ]
            refine wpAnyH_take (i := 8) (oi := { dst := some 105, op := Op.load 3 (Operand.tmp 104), type := 3, pos := "law.go:80", after := #[{ on := 7, ground := Ground.data }], guard := none }) (v := ?vsa3r22o8) rfl (by kernel_rfl) (by kernel_rfl) (by kernel_rfl) (fun _ _ _ h => h) (Or.inl ⟨by rfl, ?hsa3r22o8⟩) hS ?_
            case hsa3r22o8 => (intro wx hx; obtain ⟨y0, y1, y2, y3⟩ := S4.facts hx; go_simp; (try with_reducible rfl))
            try simp only [Act.put, List.setIfInBounds_toArray, List.set_cons_zero, List.set_cons_succ]
            refine wpAnyH_take (i := 9) (oi := { dst := some 106, op := Op.fieldAddr 35 (Operand.tmp 10) 2, type := 0, pos := "law.go:80", after := #[], guard := none }) (v := ?vsa3r22o9) rfl (by kernel_rfl) (by kernel_rfl) (by kernel_rfl) (fun _ _ _ h => h) (Or.inl ⟨by rfl, ?hsa3r22o9⟩) hS ?_
            case hsa3r22o9 => (intro wx hx; skip; go_simp; (try with_reducible rfl))
            try simp only [Act.put, List.setIfInBounds_toArray, List.set_cons_zero, List.set_cons_succ]
            refine wpAnyH_take (i := 10) (oi := { dst := some 107, op := Op.load 32 (Operand.tmp 106), type := 32, pos := "law.go:80", after := #[{ on := 9, ground := Ground.data }], guard := none }) (v := ?vsa3r22o10) rfl (by kernel_rfl) (by kernel_rfl) (by kernel_rfl) (fun _ _ _ h => h) (Or.inl ⟨by rfl, ?hsa3r22o10⟩) hS ?_
            case hsa3r22o10 => (intro wx hx; obtain ⟨y0, y1, y2, y3⟩ := S4.facts hx; go_simp; (try with_reducible rfl))
            try simp only [Act.put, List.setIfInBounds_toArray, List.set_cons_zero, List.set_cons_succ]
            refine wpAnyH_ready (rs := [5]) (by kernel_rfl) (by simp) ?_
            refine AllReadyH.cons (o := { dst := some 102, op := Op.call { callee := Callee.value (Operand.func 15), args := #[Operand.tmp 97, Operand.tmp 99, Operand.tmp 101], argTypes := #[25, 3, 32] }, type := 26, pos := "law.go:80", after := #[{ on := 0, ground := Ground.data }, { on := 2, ground := Ground.data }, { on := 4, ground := Ground.data }], guard := none }) rfl (fun K hK => ?_) AllReadyH.nil
            go_simp
            refine (HA.out _ hOr.out).mono ?_
            rintro e v1 ⟨rfl, hn⟩
            have hOn : Hid (Grommet.Own w v1 [devP d (ws.modify i (·.store V)), rowR g n (rs), boxR d2 g n, boxP Z 35 #[.int .u8 (D : Int), .int .i64 (i : Int), .int .u64 (V : Int), .slice pa pl pc]]) := Lib.hid hn
            clear hOr hn HA
            have hOr := hOn
            clear hOn
            refine hK.out _ _ ?hssa3r22o5 (fun hS => ?_)
            case hssa3r22o5 => (exact hOr.out.box 3 rfl)
            clear hK K
            try simp only [Act.put, List.setIfInBounds_toArray, List.set_cons_zero, List.set_cons_succ]
            refine wpAnyH_ready (rs := [11]) (by kernel_rfl) (by simp) ?_
            refine AllReadyH.cons (o := { dst := some 108, op := Op.call { callee := Callee.value (Operand.func 16), args := #[Operand.tmp 103, Operand.tmp 105, Operand.tmp 107], argTypes := #[29, 3, 32] }, type := 26, pos := "law.go:80", after := #[{ on := 6, ground := Ground.data }, { on := 8, ground := Ground.data }, { on := 10, ground := Ground.data }, { on := 5, ground := Ground.chain }], guard := none }) rfl (fun K hK => ?_) AllReadyH.nil
            go_simp
            refine (HB.out _ hOr.out).mono ?_
            rintro e v2 ⟨rfl, hn⟩
            have hOn : Hid (Grommet.Own w v2 [devP d (ws.modify i (·.store V)), rowR g n (rs.modify i (RW.store V)), boxR d2 g n, boxP Z 35 #[.int .u8 (D : Int), .int .i64 (i : Int), .int .u64 (V : Int), .slice pa pl pc]]) := Lib.hid hn
            clear hOr hn HB
            have hOr := hOn
            clear hOn
            refine hK.out _ _ ?hssa3r22o11 (fun hS => ?_)
            case hssa3r22o11 => (exact hOr.out.box 3 rfl)
            clear hK K
            try simp only [Act.put, List.setIfInBounds_toArray, List.set_cons_zero, List.set_cons_succ]
            refine wpAnyH_take (i := 12) (oi := { dst := some 109, op := Op.binOp BinOp.eql 26 (Operand.tmp 102) (Operand.tmp 108) 26, type := 4, pos := "law.go:80", after := #[{ on := 5, ground := Ground.data }, { on := 11, ground := Ground.data }], guard := none }) (v := ?vsa3r22o12) rfl (by kernel_rfl) (by kernel_rfl) (by kernel_rfl) (fun _ _ _ h => h) (Or.inl ⟨by rfl, ?hsa3r22o12⟩) hS ?_
            case hsa3r22o12 => (intro wx hx; skip; go_simp; (try with_reducible rfl))
            try simp only [Act.put, List.setIfInBounds_toArray, List.set_cons_zero, List.set_cons_succ]
            refine wpAnyH_take (i := 13) (oi := { dst := some 11, op := Op.assign (Operand.tmp 109), type := 4, pos := "law.go:80", after := #[{ on := 12, ground := Ground.data }, { on := 11, ground := Ground.chain }, { on := 0, ground := Ground.phase }, { on := 1, ground := Ground.phase }, { on := 2, ground := Ground.phase }, { on := 3, ground := Ground.phase }, { on := 4, ground := Ground.phase }, { on := 5, ground := Ground.phase }, { on := 6, ground := Ground.phase }, { on := 7, ground := Ground.phase }, { on := 8, ground := Ground.phase }, { on := 9, ground := Ground.phase }, { on := 10, ground := Ground.phase }, { on := 11, ground := Ground.phase }, { on := 12, ground := Ground.phase }], guard := none }) (v := ?vsa3r22o13) rfl (by kernel_rfl) (by kernel_rfl) (by kernel_rfl) (fun _ _ _ h => h) (Or.inl ⟨by rfl, ?hsa3r22o13⟩) hS ?_
            case hsa3r22o13 => (intro wx hx; skip; go_simp; (try with_reducible rfl))
            try simp only [Act.put, List.setIfInBounds_toArray, List.set_cons_zero, List.set_cons_succ]
            refine wpAnyH_done (by kernel_rfl) ?_ _
            go_wp2_with fail
            go_meet
            case rel => exact ⟨_, _, rfl, HRel, HLn, HSm, hOr⟩
          · skip
            have HA := Lib.hid (fun wx (hO : Grommet.Own w wx [devP d (ws), rowR g n (rs), boxR d2 g n, boxP Z 35 #[.int .u8 (D : Int), .int .i64 A, .int .u64 (V : Int), .slice pa pl pc]]) => StoreNoH 0 d ws A V (by unfold hasE; rw [if_pos (by have := Hwl.out; omega)]) w wx _ hO rfl)
            have HB := Lib.hid (fun wx (hO : Grommet.Own w wx [devP d (ws), rowR g n (rs), boxR d2 g n, boxP Z 35 #[.int .u8 (D : Int), .int .i64 A, .int .u64 (V : Int), .slice pa pl pc]]) => same_own hO (RStore_no 2 1 d2 g n rs A (V : Int) (by omega) w wx _ hO (⟨rfl, rfl, by decide, HLen.out, HSml.out, by omega⟩ : RD [devP d (ws), rowR g n (rs), boxR d2 g n, boxP Z 35 #[.int .u8 (D : Int), .int .i64 A, .int .u64 (V : Int), .slice pa pl pc]] 2 1 d2 g n (rs))))
            clear hin
            have hOr := Lib.hid (hO8.out.quiet (grown_drew (World.grownBy.refl _ none)))
            have hz0 : Hid (S4 Z (D : Int) A (V : Int) pa pl pc _) := Lib.hid (hOr.out.box 3 rfl)
            have HRel := Lib.hid (HRl.out)
            have HLn : Hid ((rs).length = n) := Lib.hid (HLen.out)
            have HSm : Hid (∀ c ∈ (rs), c.Small) := Lib.hid (HSml.out)
            clear hO8 y0 y1 y2 y3
            go_wp2_with fail
            refine wp_region_held_drew (S := fun w' => S4 Z (D : Int) A (V : Int) pa pl pc w') (by kernel_rfl) (hz0.out) (fun hS => ?_)
            refine wpAnyH_take (i := 0) (oi := { dst := some 97, op := Op.move (Operand.tmp 5), type := 25, pos := "law.go:80", after := #[], guard := none }) (v := ?vsb3r22o0) rfl (by kernel_rfl) (by kernel_rfl) (by kernel_rfl) (fun _ _ _ h => h) (Or.inl ⟨by rfl, ?hsb3r22o0⟩) hS ?_
            case hsb3r22o0 => (intro wx hx; skip; go_simp; (try with_reducible rfl))
            try simp only [Act.put, List.setIfInBounds_toArray, List.set_cons_zero, List.set_cons_succ]
            refine wpAnyH_take (i := 1) (oi := { dst := some 98, op := Op.fieldAddr 35 (Operand.tmp 10) 1, type := 0, pos := "law.go:80", after := #[], guard := none }) (v := ?vsb3r22o1) rfl (by kernel_rfl) (by kernel_rfl) (by kernel_rfl) (fun _ _ _ h => h) (Or.inl ⟨by rfl, ?hsb3r22o1⟩) hS ?_
            case hsb3r22o1 => (intro wx hx; skip; go_simp; (try with_reducible rfl))
            try simp only [Act.put, List.setIfInBounds_toArray, List.set_cons_zero, List.set_cons_succ]
            refine wpAnyH_take (i := 2) (oi := { dst := some 99, op := Op.load 3 (Operand.tmp 98), type := 3, pos := "law.go:80", after := #[{ on := 1, ground := Ground.data }], guard := none }) (v := ?vsb3r22o2) rfl (by kernel_rfl) (by kernel_rfl) (by kernel_rfl) (fun _ _ _ h => h) (Or.inl ⟨by rfl, ?hsb3r22o2⟩) hS ?_
            case hsb3r22o2 => (intro wx hx; obtain ⟨y0, y1, y2, y3⟩ := S4.facts hx; go_simp; (try with_reducible rfl))
            try simp only [Act.put, List.setIfInBounds_toArray, List.set_cons_zero, List.set_cons_succ]
            refine wpAnyH_take (i := 3) (oi := { dst := some 100, op := Op.fieldAddr 35 (Operand.tmp 10) 2, type := 0, pos := "law.go:80", after := #[], guard := none }) (v := ?vsb3r22o3) rfl (by kernel_rfl) (by kernel_rfl) (by kernel_rfl) (fun _ _ _ h => h) (Or.inl ⟨by rfl, ?hsb3r22o3⟩) hS ?_
            case hsb3r22o3 => (intro wx hx; skip; go_simp; (try with_reducible rfl))
            try simp only [Act.put, List.setIfInBounds_toArray, List.set_cons_zero, List.set_cons_succ]
            refine wpAnyH_take (i := 4) (oi := { dst := some 101, op := Op.load 32 (Operand.tmp 100), type := 32, pos := "law.go:80", after := #[{ on := 3, ground := Ground.data }], guard := none }) (v := ?vsb3r22o4) rfl (by kernel_rfl) (by kernel_rfl) (by kernel_rfl) (fun _ _ _ h => h) (Or.inl ⟨by rfl, ?hsb3r22o4⟩) hS ?_
            case hsb3r22o4 => (intro wx hx; obtain ⟨y0, y1, y2, y3⟩ := S4.facts hx; go_simp; (try with_reducible rfl))
            try simp only [Act.put, List.setIfInBounds_toArray, List.set_cons_zero, List.set_cons_succ]
            refine wpAnyH_take (i := 6) (oi := { dst := some 103, op := Op.move (Operand.tmp 7), type := 29, pos := "law.go:80", after := #[], guard := none }) (v := ?vsb3r22o6) rfl (by kernel_rfl) (by kernel_rfl) (by kernel_rfl) (fun _ _ _ h => h) (Or.inl ⟨by rfl, ?hsb3r22o6⟩) hS ?_
            case hsb3r22o6 => (intro wx hx; skip; go_simp; (try with_reducible rfl))
            try simp only [Act.put, List.setIfInBounds_toArray, List.set_cons_zero, List.set_cons_succ]
            refine wpAnyH_take (i := 7) (oi := { dst := some 104, op := Op.fieldAddr 35 (Operand.tmp 10) 1, type := 0, pos := "law.go:80", after := #[], guard := none }) (v := ?vsb3r22o7) rfl (by kernel_rfl) (by kernel_rfl) (by kernel_rfl) (fun _ _ _ h => h) (Or.inl ⟨by rfl, ?hsb3r22o7⟩) hS ?_
            case hsb3r22o7 => (intro wx hx; skip; go_simp; (try with_reducible rfl))
            try simp only [Act.put, List.setIfInBounds_toArray, List.set_cons_zero, List.set_cons_succ]
            refine wpAnyH_take (i := 8) (oi := { dst := some 105, op := Op.load 3 (Operand.tmp 104), type := 3, pos := "law.go:80", after := #[{ on := 7, ground := Ground.data }], guard := none }) (v := ?vsb3r22o8) rfl (by kernel_rfl) (by kernel_rfl) (by kernel_rfl) (fun _ _ _ h => h) (Or.inl ⟨by rfl, ?hsb3r22o8⟩) hS ?_
            case hsb3r22o8 => (intro wx hx; obtain ⟨y0, y1, y2, y3⟩ := S4.facts hx; go_simp; (try with_reducible rfl))
            try simp only [Act.put, List.setIfInBounds_toArray, List.set_cons_zero, List.set_cons_succ]
            refine wpAnyH_take (i := 9) (oi := { dst := some 106, op := Op.fieldAddr 35 (Operand.tmp 10) 2, type := 0, pos := "law.go:80", after := #[], guard := none }) (v := ?vsb3r22o9) rfl (by kernel_rfl) (by kernel_rfl) (by kernel_rfl) (fun _ _ _ h => h) (Or.inl ⟨by rfl, ?hsb3r22o9⟩) hS ?_
            case hsb3r22o9 => (intro wx hx; skip; go_simp; (try with_reducible rfl))
            try simp only [Act.put, List.setIfInBounds_toArray, List.set_cons_zero, List.set_cons_succ]
            refine wpAnyH_take (i := 10) (oi := { dst := some 107, op := Op.load 32 (Operand.tmp 106), type := 32, pos := "law.go:80", after := #[{ on := 9, ground := Ground.data }], guard := none }) (v := ?vsb3r22o10) rfl (by kernel_rfl) (by kernel_rfl) (by kernel_rfl) (fun _ _ _ h => h) (Or.inl ⟨by rfl, ?hsb3r22o10⟩) hS ?_
            case hsb3r22o10 => (intro wx hx; obtain ⟨y0, y1, y2, y3⟩ := S4.facts hx; go_simp; (try with_reducible rfl))
            try simp only [Act.put, List.setIfInBounds_toArray, List.set_cons_zero, List.set_cons_succ]
            refine wpAnyH_ready (rs := [5]) (by kernel_rfl) (by simp) ?_
            refine AllReadyH.cons (o := { dst := some 102, op := Op.call { callee := Callee.value (Operand.func 15), args := #[Operand.tmp 97, Operand.tmp 99, Operand.tmp 101], argTypes := #[25, 3, 32] }, type := 26, pos := "law.go:80", after := #[{ on := 0, ground := Ground.data }, { on := 2, ground := Ground.data }, { on := 4, ground := Ground.data }], guard := none }) rfl (fun K hK => ?_) AllReadyH.nil
            go_simp
            refine (HA.out _ hOr.out).mono ?_
            rintro e v1 ⟨rfl, hn⟩
            have hOn : Hid (Grommet.Own w v1 [devP d (ws), rowR g n (rs), boxR d2 g n, boxP Z 35 #[.int .u8 (D : Int), .int .i64 A, .int .u64 (V : Int), .slice pa pl pc]]) := Lib.hid hn
            clear hOr hn HA
            have hOr := hOn
            clear hOn
            refine hK.out _ _ ?hssb3r22o5 (fun hS => ?_)
            case hssb3r22o5 => (exact hOr.out.box 3 rfl)
            clear hK K
            try simp only [Act.put, List.setIfInBounds_toArray, List.set_cons_zero, List.set_cons_succ]
            refine wpAnyH_ready (rs := [11]) (by kernel_rfl) (by simp) ?_
            refine AllReadyH.cons (o := { dst := some 108, op := Op.call { callee := Callee.value (Operand.func 16), args := #[Operand.tmp 103, Operand.tmp 105, Operand.tmp 107], argTypes := #[29, 3, 32] }, type := 26, pos := "law.go:80", after := #[{ on := 6, ground := Ground.data }, { on := 8, ground := Ground.data }, { on := 10, ground := Ground.data }, { on := 5, ground := Ground.chain }], guard := none }) rfl (fun K hK => ?_) AllReadyH.nil
            go_simp
            refine (HB.out _ hOr.out).mono ?_
            rintro e v2 ⟨rfl, hn⟩
            have hOn : Hid (Grommet.Own w v2 [devP d (ws), rowR g n (rs), boxR d2 g n, boxP Z 35 #[.int .u8 (D : Int), .int .i64 A, .int .u64 (V : Int), .slice pa pl pc]]) := Lib.hid hn
            clear hOr hn HB
            have hOr := hOn
            clear hOn
            refine hK.out _ _ ?hssb3r22o11 (fun hS => ?_)
            case hssb3r22o11 => (exact hOr.out.box 3 rfl)
            clear hK K
            try simp only [Act.put, List.setIfInBounds_toArray, List.set_cons_zero, List.set_cons_succ]
            refine wpAnyH_take (i := 12) (oi := { dst := some 109, op := Op.binOp BinOp.eql 26 (Operand.tmp 102) (Operand.tmp 108) 26, type := 4, pos := "law.go:80", after := #[{ on := 5, ground := Ground.data }, { on := 11, ground := Ground.data }], guard := none }) (v := ?vsb3r22o12) rfl (by kernel_rfl) (by kernel_rfl) (by kernel_rfl) (fun _ _ _ h => h) (Or.inl ⟨by rfl, ?hsb3r22o12⟩) hS ?_
            case hsb3r22o12 => (intro wx hx; skip; go_simp; (try with_reducible rfl))
            try simp only [Act.put, List.setIfInBounds_toArray, List.set_cons_zero, List.set_cons_succ]
            refine wpAnyH_take (i := 13) (oi := { dst := some 11, op := Op.assign (Operand.tmp 109), type := 4, pos := "law.go:80", after := #[{ on := 12, ground := Ground.data }, { on := 11, ground := Ground.chain }, { on := 0, ground := Ground.phase }, { on := 1, ground := Ground.phase }, { on := 2, ground := Ground.phase }, { on := 3, ground := Ground.phase }, { on := 4, ground := Ground.phase }, { on := 5, ground := Ground.phase }, { on := 6, ground := Ground.phase }, { on := 7, ground := Ground.phase }, { on := 8, ground := Ground.phase }, { on := 9, ground := Ground.phase }, { on := 10, ground := Ground.phase }, { on := 11, ground := Ground.phase }, { on := 12, ground := Ground.phase }], guard := none }) (v := ?vsb3r22o13) rfl (by kernel_rfl) (by kernel_rfl) (by kernel_rfl) (fun _ _ _ h => h) (Or.inl ⟨by rfl, ?hsb3r22o13⟩) hS ?_
            case hsb3r22o13 => (intro wx hx; skip; go_simp; (try with_reducible rfl))
            try simp only [Act.put, List.setIfInBounds_toArray, List.set_cons_zero, List.set_cons_succ]
            refine wpAnyH_done (by kernel_rfl) ?_ _
            go_wp2_with fail
            go_meet
            case rel => exact ⟨_, _, rfl, HRel, HLn, HSm, hOr⟩
        · have HR := Lib.hid hr
          clear hr
          have q0 : ((rr : Int) == 0) = false := by rw [HR.out]; rfl
          have q1 : ((rr : Int) == 1) = false := by rw [HR.out]; rfl
          have q2 : ((rr : Int) == 2) = true := by rw [HR.out]; rfl
          by_cases hin : 0 ≤ A ∧ A < ((n / 8 : Nat) : Int)
          · obtain ⟨i, rfl⟩ := Int.eq_ofNat_of_zero_le hin.1
            have hi : i < n / 8 := by omega
            clear hin
            have HA := Lib.hid (fun wx (hO : Grommet.Own w wx [devP d (ws), rowR g n (rs), boxR d2 g n, boxP Z 35 #[.int .u8 (D : Int), .int .i64 (i : Int), .int .u64 (V : Int), .slice pa pl pc]]) => FlushH 0 d ws w wx _ hO rfl i (by rw [Hwl.out]; exact hi))
            have HB := Lib.hid (fun wx (hO : Grommet.Own w wx [devP d (turnFrom PW.flush (8 * i) 8 ws), rowR g n (rs), boxR d2 g n, boxP Z 35 #[.int .u8 (D : Int), .int .i64 (i : Int), .int .u64 (V : Int), .slice pa pl pc]]) => RFlush_ok 2 1 d2 g n rs i hi w wx _ hO (⟨rfl, rfl, by decide, HLen.out, HSml.out, by omega⟩ : RD [devP d (turnFrom PW.flush (8 * i) 8 ws), rowR g n (rs), boxR d2 g n, boxP Z 35 #[.int .u8 (D : Int), .int .i64 (i : Int), .int .u64 (V : Int), .slice pa pl pc]] 2 1 d2 g n (rs)))
            have hOr := Lib.hid (hO8.out.quiet (grown_drew (World.grownBy.refl _ none)))
            have hz0 : Hid (S4 Z (D : Int) (i : Int) (V : Int) pa pl pc _) := Lib.hid (hOr.out.box 3 rfl)
            have HRel := Lib.hid (HRl.out.turn (fun c r hcr => OkW.flush hcr) (8 * i) 8)
            have HLn : Hid ((rturn RW.flush (8 * i) 8 rs).length = n) := Lib.hid (by rw [rturn_len]; exact HLen.out)
            have HSm : Hid (∀ c ∈ (rturn RW.flush (8 * i) 8 rs), c.Small) := Lib.hid (rturn_small (fun c => rflush_small) _ rs HSml.out 8)
            clear hO8 y0 y1 y2 y3
            go_wp2_with fail
            refine wp_region_held_drew (S := fun w' => S4 Z (D : Int) (i : Int) (V : Int) pa pl pc w') (by kernel_rfl) (hz0.out) (fun hS => ?_)
            refine wpAnyH_take (i := 0) (oi := { dst := some 112, op := Op.move (Operand.tmp 5), type := 25, pos := "law.go:82", after := #[], guard := none }) (v := ?vfa3r24o0) rfl (by kernel_rfl) (by kernel_rfl) (by kernel_rfl) (fun _ _ _ h => h) (Or.inl ⟨by rfl, ?hfa3r24o0⟩) hS ?_
            case hfa3r24o0 => (intro wx hx; skip; go_simp; (try with_reducible rfl))
            try simp only [Act.put, List.setIfInBounds_toArray, List.set_cons_zero, List.set_cons_succ]
            refine wpAnyH_take (i := 1) (oi := { dst := some 113, op := Op.fieldAddr 35 (Operand.tmp 10) 1, type := 0, pos := "law.go:82", after := #[], guard := none }) (v := ?vfa3r24o1) rfl (by kernel_rfl) (by kernel_rfl) (by kernel_rfl) (fun _ _ _ h => h) (Or.inl ⟨by rfl, ?hfa3r24o1⟩) hS ?_
            case hfa3r24o1 => (intro wx hx; skip; go_simp; (try with_reducible rfl))
            try simp only [Act.put, List.setIfInBounds_toArray, List.set_cons_zero, List.set_cons_succ]
            refine wpAnyH_take (i := 2) (oi := { dst := some 114, op := Op.load 3 (Operand.tmp 113), type := 3, pos := "law.go:82", after := #[{ on := 1, ground := Ground.data }], guard := none }) (v := ?vfa3r24o2) rfl (by kernel_rfl) (by kernel_rfl) (by kernel_rfl) (fun _ _ _ h => h) (Or.inl ⟨by rfl, ?hfa3r24o2⟩) hS ?_
            case hfa3r24o2 => (intro wx hx; obtain ⟨y0, y1, y2, y3⟩ := S4.facts hx; go_simp; (try with_reducible rfl))
            try simp only [Act.put, List.setIfInBounds_toArray, List.set_cons_zero, List.set_cons_succ]
            refine wpAnyH_take (i := 4) (oi := { dst := some 116, op := Op.move (Operand.tmp 7), type := 29, pos := "law.go:82", after := #[], guard := none }) (v := ?vfa3r24o4) rfl (by kernel_rfl) (by kernel_rfl) (by kernel_rfl) (fun _ _ _ h => h) (Or.inl ⟨by rfl, ?hfa3r24o4⟩) hS ?_
            case hfa3r24o4 => (intro wx hx; skip; go_simp; (try with_reducible rfl))
            try simp only [Act.put, List.setIfInBounds_toArray, List.set_cons_zero, List.set_cons_succ]
            refine wpAnyH_take (i := 5) (oi := { dst := some 117, op := Op.fieldAddr 35 (Operand.tmp 10) 1, type := 0, pos := "law.go:82", after := #[], guard := none }) (v := ?vfa3r24o5) rfl (by kernel_rfl) (by kernel_rfl) (by kernel_rfl) (fun _ _ _ h => h) (Or.inl ⟨by rfl, ?hfa3r24o5⟩) hS ?_
            case hfa3r24o5 => (intro wx hx; skip; go_simp; (try with_reducible rfl))
            try simp only [Act.put, List.setIfInBounds_toArray, List.set_cons_zero, List.set_cons_succ]
            refine wpAnyH_take (i := 6) (oi := { dst := some 118, op := Op.load 3 (Operand.tmp 117), type := 3, pos := "law.go:82", after := #[{ on := 5, ground := Ground.data }], guard := none }) (v := ?vfa3r24o6) rfl (by kernel_rfl) (by kernel_rfl) (by kernel_rfl) (fun _ _ _ h => h) (Or.inl ⟨by rfl, ?hfa3r24o6⟩) hS ?_
            case hfa3r24o6 => (intro wx hx; obtain ⟨y0, y1, y2, y3⟩ := S4.facts hx; go_simp; (try with_reducible rfl))
            try simp only [Act.put, List.setIfInBounds_toArray, List.set_cons_zero, List.set_cons_succ]
            refine wpAnyH_ready (rs := [3]) (by kernel_rfl) (by simp) ?_
            refine AllReadyH.cons (o := { dst := some 115, op := Op.call { callee := Callee.value (Operand.func 17), args := #[Operand.tmp 112, Operand.tmp 114], argTypes := #[25, 3] }, type := 26, pos := "law.go:82", after := #[{ on := 0, ground := Ground.data }, { on := 2, ground := Ground.data }], guard := none }) rfl (fun K hK => ?_) AllReadyH.nil
            go_simp
            refine (HA.out _ hOr.out).mono ?_
            rintro e v1 ⟨rfl, hn⟩
            have hOn : Hid (Grommet.Own w v1 [devP d (turnFrom PW.flush (8 * i) 8 ws), rowR g n (rs), boxR d2 g n, boxP Z 35 #[.int .u8 (D : Int), .int .i64 (i : Int), .int .u64 (V : Int), .slice pa pl pc]]) := Lib.hid hn
            clear hOr hn HA
            have hOr := hOn
            clear hOn
            refine hK.out _ _ ?hsfa3r24o3 (fun hS => ?_)
            case hsfa3r24o3 => (exact hOr.out.box 3 rfl)
            clear hK K
            try simp only [Act.put, List.setIfInBounds_toArray, List.set_cons_zero, List.set_cons_succ]
            refine wpAnyH_ready (rs := [7]) (by kernel_rfl) (by simp) ?_
            refine AllReadyH.cons (o := { dst := some 119, op := Op.call { callee := Callee.value (Operand.func 18), args := #[Operand.tmp 116, Operand.tmp 118], argTypes := #[29, 3] }, type := 26, pos := "law.go:82", after := #[{ on := 4, ground := Ground.data }, { on := 6, ground := Ground.data }, { on := 3, ground := Ground.chain }], guard := none }) rfl (fun K hK => ?_) AllReadyH.nil
            go_simp
            refine (HB.out _ hOr.out).mono ?_
            rintro e v2 ⟨rfl, hn⟩
            have hOn : Hid (Grommet.Own w v2 [devP d (turnFrom PW.flush (8 * i) 8 ws), rowR g n (rturn RW.flush (8 * i) 8 rs), boxR d2 g n, boxP Z 35 #[.int .u8 (D : Int), .int .i64 (i : Int), .int .u64 (V : Int), .slice pa pl pc]]) := Lib.hid hn
            clear hOr hn HB
            have hOr := hOn
            clear hOn
            refine hK.out _ _ ?hsfa3r24o7 (fun hS => ?_)
            case hsfa3r24o7 => (exact hOr.out.box 3 rfl)
            clear hK K
            try simp only [Act.put, List.setIfInBounds_toArray, List.set_cons_zero, List.set_cons_succ]
            refine wpAnyH_take (i := 8) (oi := { dst := some 120, op := Op.binOp BinOp.eql 26 (Operand.tmp 115) (Operand.tmp 119) 26, type := 4, pos := "law.go:82", after := #[{ on := 3, ground := Ground.data }, { on := 7, ground := Ground.data }], guard := none }) (v := ?vfa3r24o8) rfl (by kernel_rfl) (by kernel_rfl) (by kernel_rfl) (fun _ _ _ h => h) (Or.inl ⟨by rfl, ?hfa3r24o8⟩) hS ?_
            case hfa3r24o8 => (intro wx hx; skip; go_simp; (try with_reducible rfl))
            try simp only [Act.put, List.setIfInBounds_toArray, List.set_cons_zero, List.set_cons_succ]
            refine wpAnyH_take (i := 9) (oi := { dst := some 11, op := Op.assign (Operand.tmp 120), type := 4, pos := "law.go:82", after := #[{ on := 8, ground := Ground.data }, { on := 7, ground := Ground.chain }, { on := 0, ground := Ground.phase }, { on := 1, ground := Ground.phase }, { on := 2, ground := Ground.phase }, { on := 3, ground := Ground.phase }, { on := 4, ground := Ground.phase }, { on := 5, ground := Ground.phase }, { on := 6, ground := Ground.phase }, { on := 7, ground := Ground.phase }, { on := 8, ground := Ground.phase }], guard := none }) (v := ?vfa3r24o9) rfl (by kernel_rfl) (by kernel_rfl) (by kernel_rfl) (fun _ _ _ h => h) (Or.inl ⟨by rfl, ?hfa3r24o9⟩) hS ?_
            case hfa3r24o9 => (intro wx hx; skip; go_simp; (try with_reducible rfl))
            try simp only [Act.put, List.setIfInBounds_toArray, List.set_cons_zero, List.set_cons_succ]
            refine wpAnyH_done (by kernel_rfl) ?_ _
            go_wp2_with fail
            go_meet
            case rel => exact ⟨_, _, rfl, HRel, HLn, HSm, hOr⟩
          · have hE : hasE A (n / 8) = 8 := by unfold hasE; rw [if_pos (by omega)]
            have hE2 : decide (0 ≤ A ∧ A < ((n / 8 : Nat) : Int)) = false := by rw [decide_eq_false_iff_not]; exact hin
            clear hin
            have HA := Lib.hid (fun wx (hO : Grommet.Own w wx [devP d (ws), rowR g n (rs), boxR d2 g n, boxP Z 35 #[.int .u8 (D : Int), .int .i64 A, .int .u64 (V : Int), .slice pa pl pc]]) => PFlushNoH 0 d ws A (by rw [Hwl.out]; exact hE) w wx _ hO rfl)
            have HB := Lib.hid (fun wx (hO : Grommet.Own w wx [devP d (ws), rowR g n (rs), boxR d2 g n, boxP Z 35 #[.int .u8 (D : Int), .int .i64 A, .int .u64 (V : Int), .slice pa pl pc]]) => same_own hO (RFlush_no 2 1 d2 g n rs A hE2 w wx _ hO (⟨rfl, rfl, by decide, HLen.out, HSml.out, by omega⟩ : RD [devP d (ws), rowR g n (rs), boxR d2 g n, boxP Z 35 #[.int .u8 (D : Int), .int .i64 A, .int .u64 (V : Int), .slice pa pl pc]] 2 1 d2 g n (rs))))
            have hOr := Lib.hid (hO8.out.quiet (grown_drew (World.grownBy.refl _ none)))
            have hz0 : Hid (S4 Z (D : Int) A (V : Int) pa pl pc _) := Lib.hid (hOr.out.box 3 rfl)
            have HRel := Lib.hid (HRl.out)
            have HLn : Hid ((rs).length = n) := Lib.hid (HLen.out)
            have HSm : Hid (∀ c ∈ (rs), c.Small) := Lib.hid (HSml.out)
            clear hO8 y0 y1 y2 y3
            go_wp2_with fail
            refine wp_region_held_drew (S := fun w' => S4 Z (D : Int) A (V : Int) pa pl pc w') (by kernel_rfl) (hz0.out) (fun hS => ?_)
            refine wpAnyH_take (i := 0) (oi := { dst := some 112, op := Op.move (Operand.tmp 5), type := 25, pos := "law.go:82", after := #[], guard := none }) (v := ?vfb3r24o0) rfl (by kernel_rfl) (by kernel_rfl) (by kernel_rfl) (fun _ _ _ h => h) (Or.inl ⟨by rfl, ?hfb3r24o0⟩) hS ?_
            case hfb3r24o0 => (intro wx hx; skip; go_simp; (try with_reducible rfl))
            try simp only [Act.put, List.setIfInBounds_toArray, List.set_cons_zero, List.set_cons_succ]
            refine wpAnyH_take (i := 1) (oi := { dst := some 113, op := Op.fieldAddr 35 (Operand.tmp 10) 1, type := 0, pos := "law.go:82", after := #[], guard := none }) (v := ?vfb3r24o1) rfl (by kernel_rfl) (by kernel_rfl) (by kernel_rfl) (fun _ _ _ h => h) (Or.inl ⟨by rfl, ?hfb3r24o1⟩) hS ?_
            case hfb3r24o1 => (intro wx hx; skip; go_simp; (try with_reducible rfl))
            try simp only [Act.put, List.setIfInBounds_toArray, List.set_cons_zero, List.set_cons_succ]
            refine wpAnyH_take (i := 2) (oi := { dst := some 114, op := Op.load 3 (Operand.tmp 113), type := 3, pos := "law.go:82", after := #[{ on := 1, ground := Ground.data }], guard := none }) (v := ?vfb3r24o2) rfl (by kernel_rfl) (by kernel_rfl) (by kernel_rfl) (fun _ _ _ h => h) (Or.inl ⟨by rfl, ?hfb3r24o2⟩) hS ?_
            case hfb3r24o2 => (intro wx hx; obtain ⟨y0, y1, y2, y3⟩ := S4.facts hx; go_simp; (try with_reducible rfl))
            try simp only [Act.put, List.setIfInBounds_toArray, List.set_cons_zero, List.set_cons_succ]
            refine wpAnyH_take (i := 4) (oi := { dst := some 116, op := Op.move (Operand.tmp 7), type := 29, pos := "law.go:82", after := #[], guard := none }) (v := ?vfb3r24o4) rfl (by kernel_rfl) (by kernel_rfl) (by kernel_rfl) (fun _ _ _ h => h) (Or.inl ⟨by rfl, ?hfb3r24o4⟩) hS ?_
            case hfb3r24o4 => (intro wx hx; skip; go_simp; (try with_reducible rfl))
            try simp only [Act.put, List.setIfInBounds_toArray, List.set_cons_zero, List.set_cons_succ]
            refine wpAnyH_take (i := 5) (oi := { dst := some 117, op := Op.fieldAddr 35 (Operand.tmp 10) 1, type := 0, pos := "law.go:82", after := #[], guard := none }) (v := ?vfb3r24o5) rfl (by kernel_rfl) (by kernel_rfl) (by kernel_rfl) (fun _ _ _ h => h) (Or.inl ⟨by rfl, ?hfb3r24o5⟩) hS ?_
            case hfb3r24o5 => (intro wx hx; skip; go_simp; (try with_reducible rfl))
            try simp only [Act.put, List.setIfInBounds_toArray, List.set_cons_zero, List.set_cons_succ]
            refine wpAnyH_take (i := 6) (oi := { dst := some 118, op := Op.load 3 (Operand.tmp 117), type := 3, pos := "law.go:82", after := #[{ on := 5, ground := Ground.data }], guard := none }) (v := ?vfb3r24o6) rfl (by kernel_rfl) (by kernel_rfl) (by kernel_rfl) (fun _ _ _ h => h) (Or.inl ⟨by rfl, ?hfb3r24o6⟩) hS ?_
            case hfb3r24o6 => (intro wx hx; obtain ⟨y0, y1, y2, y3⟩ := S4.facts hx; go_simp; (try with_reducible rfl))
            try simp only [Act.put, List.setIfInBounds_toArray, List.set_cons_zero, List.set_cons_succ]
            refine wpAnyH_ready (rs := [3]) (by kernel_rfl) (by simp) ?_
            refine AllReadyH.cons (o := { dst := some 115, op := Op.call { callee := Callee.value (Operand.func 17), args := #[Operand.tmp 112, Operand.tmp 114], argTypes := #[25, 3] }, type := 26, pos := "law.go:82", after := #[{ on := 0, ground := Ground.data }, { on := 2, ground := Ground.data }], guard := none }) rfl (fun K hK => ?_) AllReadyH.nil
            go_simp
            refine (HA.out _ hOr.out).mono ?_
            rintro e v1 ⟨rfl, hn⟩
            have hOn : Hid (Grommet.Own w v1 [devP d (ws), rowR g n (rs), boxR d2 g n, boxP Z 35 #[.int .u8 (D : Int), .int .i64 A, .int .u64 (V : Int), .slice pa pl pc]]) := Lib.hid hn
            clear hOr hn HA
            have hOr := hOn
            clear hOn
            refine hK.out _ _ ?hsfb3r24o3 (fun hS => ?_)
            case hsfb3r24o3 => (exact hOr.out.box 3 rfl)
            clear hK K
            try simp only [Act.put, List.setIfInBounds_toArray, List.set_cons_zero, List.set_cons_succ]
            refine wpAnyH_ready (rs := [7]) (by kernel_rfl) (by simp) ?_
            refine AllReadyH.cons (o := { dst := some 119, op := Op.call { callee := Callee.value (Operand.func 18), args := #[Operand.tmp 116, Operand.tmp 118], argTypes := #[29, 3] }, type := 26, pos := "law.go:82", after := #[{ on := 4, ground := Ground.data }, { on := 6, ground := Ground.data }, { on := 3, ground := Ground.chain }], guard := none }) rfl (fun K hK => ?_) AllReadyH.nil
            go_simp
            refine (HB.out _ hOr.out).mono ?_
            rintro e v2 ⟨rfl, hn⟩
            have hOn : Hid (Grommet.Own w v2 [devP d (ws), rowR g n (rs), boxR d2 g n, boxP Z 35 #[.int .u8 (D : Int), .int .i64 A, .int .u64 (V : Int), .slice pa pl pc]]) := Lib.hid hn
            clear hOr hn HB
            have hOr := hOn
            clear hOn
            refine hK.out _ _ ?hsfb3r24o7 (fun hS => ?_)
            case hsfb3r24o7 => (exact hOr.out.box 3 rfl)
            clear hK K
            try simp only [Act.put, List.setIfInBounds_toArray, List.set_cons_zero, List.set_cons_succ]
            refine wpAnyH_take (i := 8) (oi := { dst := some 120, op := Op.binOp BinOp.eql 26 (Operand.tmp 115) (Operand.tmp 119) 26, type := 4, pos := "law.go:82", after := #[{ on := 3, ground := Ground.data }, { on := 7, ground := Ground.data }], guard := none }) (v := ?vfb3r24o8) rfl (by kernel_rfl) (by kernel_rfl) (by kernel_rfl) (fun _ _ _ h => h) (Or.inl ⟨by rfl, ?hfb3r24o8⟩) hS ?_
            case hfb3r24o8 => (intro wx hx; skip; go_simp; (try with_reducible rfl))
            try simp only [Act.put, List.setIfInBounds_toArray, List.set_cons_zero, List.set_cons_succ]
            refine wpAnyH_take (i := 9) (oi := { dst := some 11, op := Op.assign (Operand.tmp 120), type := 4, pos := "law.go:82", after := #[{ on := 8, ground := Ground.data }, { on := 7, ground := Ground.chain }, { on := 0, ground := Ground.phase }, { on := 1, ground := Ground.phase }, { on := 2, ground := Ground.phase }, { on := 3, ground := Ground.phase }, { on := 4, ground := Ground.phase }, { on := 5, ground := Ground.phase }, { on := 6, ground := Ground.phase }, { on := 7, ground := Ground.phase }, { on := 8, ground := Ground.phase }], guard := none }) (v := ?vfb3r24o9) rfl (by kernel_rfl) (by kernel_rfl) (by kernel_rfl) (fun _ _ _ h => h) (Or.inl ⟨by rfl, ?hfb3r24o9⟩) hS ?_
            case hfb3r24o9 => (intro wx hx; skip; go_simp; (try with_reducible rfl))
            try simp only [Act.put, List.setIfInBounds_toArray, List.set_cons_zero, List.set_cons_succ]
            refine wpAnyH_done (by kernel_rfl) ?_ _
            go_wp2_with fail
            go_meet
            case rel => exact ⟨_, _, rfl, HRel, HLn, HSm, hOr⟩
        · have HR := Lib.hid hr
          clear hr
          have q0 : ((rr : Int) == 0) = false := by rw [HR.out]; rfl
          have q1 : ((rr : Int) == 1) = false := by rw [HR.out]; rfl
          have q2 : ((rr : Int) == 2) = false := by rw [HR.out]; rfl
          have q3 : ((rr : Int) == 3) = true := by rw [HR.out]; rfl
          have HA := Lib.hid (RFence_ok 2 1 d2 g n rs (by omega) w _ _ hO8.out (⟨rfl, rfl, by decide, HLen.out, HSml.out, by omega⟩ : RD [devP d (ws), rowR g n (rs), boxR d2 g n, boxP Z 35 #[.int .u8 (D : Int), .int .i64 A, .int .u64 (V : Int), .slice pa pl pc]] 2 1 d2 g n (rs)))
          have HB := Lib.hid (fun wx (hO : Grommet.Own w wx [devP d (ws), rowR g n (rturn RW.fence 0 n rs), boxR d2 g n, boxP Z 35 #[.int .u8 (D : Int), .int .i64 A, .int .u64 (V : Int), .slice pa pl pc]]) => FenceH 0 d ws w wx _ hO rfl N (by rw [Hwl.out]; exact HN.out))
          have HRel := Lib.hid (HRl.out.map (fun c r hcr => OkW.fence hcr) n (by rw [HLen.out]; exact Nat.le_refl _))
          have HLn : Hid ((rturn RW.fence 0 n rs).length = n) := Lib.hid (by rw [rturn_len]; exact HLen.out)
          have HSm : Hid (∀ c ∈ rturn RW.fence 0 n rs, c.Small) := Lib.hid (rturn_small (fun c => rfence_small) _ rs HSml.out n)
          clear hO8 y0 y1 y2 y3
          go_wp2_with fail
          refine HA.out.mono ?_
          rintro e w6 ⟨rfl, hO6⟩
          have HB2 := Lib.hid (HB.out w6 hO6)
          clear HA HB hO6
          go_wp2_with fail
          refine HB2.out.mono ?_
          rintro e w7 ⟨rfl, hO7⟩
          have hO7 := Lib.hid hO7
          clear HB2
          go_wp2_with fail
          go_meet
          case rel => exact ⟨_, _, rfl, HRel, HLn, HSm, hO7⟩
        · have HR := Lib.hid hr
          clear hr
          have q0 : ((rr : Int) == 0) = false := by rw [HR.out]; rfl
          have q1 : ((rr : Int) == 1) = false := by rw [HR.out]; rfl
          have q2 : ((rr : Int) == 2) = false := by rw [HR.out]; rfl
          have q3 : ((rr : Int) == 3) = false := by rw [HR.out]; rfl
          have q4 : ((rr : Int) == 4) = true := by rw [HR.out]; rfl
          by_cases hin : 0 ≤ A ∧ A < ((n / 8 : Nat) : Int)
          · obtain ⟨i, rfl⟩ := Int.eq_ofNat_of_zero_le hin.1
            have hi : i < n / 8 := by omega
            clear hin
            have HA := Lib.hid (fun wx (hO : Grommet.Own w wx [devP d (ws), rowR g n (rs), boxR d2 g n, boxP Z 35 #[.int .u8 (D : Int), .int .i64 (i : Int), .int .u64 (V : Int), .slice pa pl pc]]) => EvictH 0 d ws w wx _ hO rfl i (by rw [Hwl.out]; exact hi))
            have HB := Lib.hid (fun wx (hO : Grommet.Own w wx [devP d (turnFrom PW.evict (8 * i) 8 ws), rowR g n (rs), boxR d2 g n, boxP Z 35 #[.int .u8 (D : Int), .int .i64 (i : Int), .int .u64 (V : Int), .slice pa pl pc]]) => REvict_ok 2 1 d2 g n rs i hi w wx _ hO (⟨rfl, rfl, by decide, HLen.out, HSml.out, by omega⟩ : RD [devP d (turnFrom PW.evict (8 * i) 8 ws), rowR g n (rs), boxR d2 g n, boxP Z 35 #[.int .u8 (D : Int), .int .i64 (i : Int), .int .u64 (V : Int), .slice pa pl pc]] 2 1 d2 g n (rs)))
            have hOr := Lib.hid (hO8.out.quiet (grown_drew (World.grownBy.refl _ none)))
            have hz0 : Hid (S4 Z (D : Int) (i : Int) (V : Int) pa pl pc _) := Lib.hid (hOr.out.box 3 rfl)
            have HRel := Lib.hid (HRl.out.turn (fun c r hcr => OkW.evict hcr) (8 * i) 8)
            have HLn : Hid ((rturn RW.evict (8 * i) 8 rs).length = n) := Lib.hid (by rw [rturn_len]; exact HLen.out)
            have HSm : Hid (∀ c ∈ (rturn RW.evict (8 * i) 8 rs), c.Small) := Lib.hid (rturn_small (fun c => revict_small) _ rs HSml.out 8)
            clear hO8 y0 y1 y2 y3
            go_wp2_with fail
            refine wp_region_held_drew (S := fun w' => S4 Z (D : Int) (i : Int) (V : Int) pa pl pc w') (by kernel_rfl) (hz0.out) (fun hS => ?_)
            refine wpAnyH_take (i := 0) (oi := { dst := some 130, op := Op.move (Operand.tmp 5), type := 25, pos := "law.go:87", after := #[], guard := none }) (v := ?vea3r29o0) rfl (by kernel_rfl) (by kernel_rfl) (by kernel_rfl) (fun _ _ _ h => h) (Or.inl ⟨by rfl, ?hea3r29o0⟩) hS ?_
            case hea3r29o0 => (intro wx hx; skip; go_simp; (try with_reducible rfl))
            try simp only [Act.put, List.setIfInBounds_toArray, List.set_cons_zero, List.set_cons_succ]
            refine wpAnyH_take (i := 1) (oi := { dst := some 131, op := Op.fieldAddr 35 (Operand.tmp 10) 1, type := 0, pos := "law.go:87", after := #[], guard := none }) (v := ?vea3r29o1) rfl (by kernel_rfl) (by kernel_rfl) (by kernel_rfl) (fun _ _ _ h => h) (Or.inl ⟨by rfl, ?hea3r29o1⟩) hS ?_
            case hea3r29o1 => (intro wx hx; skip; go_simp; (try with_reducible rfl))
            try simp only [Act.put, List.setIfInBounds_toArray, List.set_cons_zero, List.set_cons_succ]
            refine wpAnyH_take (i := 2) (oi := { dst := some 132, op := Op.load 3 (Operand.tmp 131), type := 3, pos := "law.go:87", after := #[{ on := 1, ground := Ground.data }], guard := none }) (v := ?vea3r29o2) rfl (by kernel_rfl) (by kernel_rfl) (by kernel_rfl) (fun _ _ _ h => h) (Or.inl ⟨by rfl, ?hea3r29o2⟩) hS ?_
            case hea3r29o2 => (intro wx hx; obtain ⟨y0, y1, y2, y3⟩ := S4.facts hx; go_simp; (try with_reducible rfl))
            try simp only [Act.put, List.setIfInBounds_toArray, List.set_cons_zero, List.set_cons_succ]
            refine wpAnyH_take (i := 4) (oi := { dst := some 134, op := Op.move (Operand.tmp 7), type := 29, pos := "law.go:87", after := #[], guard := none }) (v := ?vea3r29o4) rfl (by kernel_rfl) (by kernel_rfl) (by kernel_rfl) (fun _ _ _ h => h) (Or.inl ⟨by rfl, ?hea3r29o4⟩) hS ?_
            case hea3r29o4 => (intro wx hx; skip; go_simp; (try with_reducible rfl))
            try simp only [Act.put, List.setIfInBounds_toArray, List.set_cons_zero, List.set_cons_succ]
            refine wpAnyH_take (i := 5) (oi := { dst := some 135, op := Op.fieldAddr 35 (Operand.tmp 10) 1, type := 0, pos := "law.go:87", after := #[], guard := none }) (v := ?vea3r29o5) rfl (by kernel_rfl) (by kernel_rfl) (by kernel_rfl) (fun _ _ _ h => h) (Or.inl ⟨by rfl, ?hea3r29o5⟩) hS ?_
            case hea3r29o5 => (intro wx hx; skip; go_simp; (try with_reducible rfl))
            try simp only [Act.put, List.setIfInBounds_toArray, List.set_cons_zero, List.set_cons_succ]
            refine wpAnyH_take (i := 6) (oi := { dst := some 136, op := Op.load 3 (Operand.tmp 135), type := 3, pos := "law.go:87", after := #[{ on := 5, ground := Ground.data }], guard := none }) (v := ?vea3r29o6) rfl (by kernel_rfl) (by kernel_rfl) (by kernel_rfl) (fun _ _ _ h => h) (Or.inl ⟨by rfl, ?hea3r29o6⟩) hS ?_
            case hea3r29o6 => (intro wx hx; obtain ⟨y0, y1, y2, y3⟩ := S4.facts hx; go_simp; (try with_reducible rfl))
            try simp only [Act.put, List.setIfInBounds_toArray, List.set_cons_zero, List.set_cons_succ]
            refine wpAnyH_ready (rs := [3]) (by kernel_rfl) (by simp) ?_
            refine AllReadyH.cons (o := { dst := some 133, op := Op.call { callee := Callee.value (Operand.func 21), args := #[Operand.tmp 130, Operand.tmp 132], argTypes := #[25, 3] }, type := 26, pos := "law.go:87", after := #[{ on := 0, ground := Ground.data }, { on := 2, ground := Ground.data }], guard := none }) rfl (fun K hK => ?_) AllReadyH.nil
            go_simp
            refine (HA.out _ hOr.out).mono ?_
            rintro e v1 ⟨rfl, hn⟩
            have hOn : Hid (Grommet.Own w v1 [devP d (turnFrom PW.evict (8 * i) 8 ws), rowR g n (rs), boxR d2 g n, boxP Z 35 #[.int .u8 (D : Int), .int .i64 (i : Int), .int .u64 (V : Int), .slice pa pl pc]]) := Lib.hid hn
            clear hOr hn HA
            have hOr := hOn
            clear hOn
            refine hK.out _ _ ?hsea3r29o3 (fun hS => ?_)
            case hsea3r29o3 => (exact hOr.out.box 3 rfl)
            clear hK K
            try simp only [Act.put, List.setIfInBounds_toArray, List.set_cons_zero, List.set_cons_succ]
            refine wpAnyH_ready (rs := [7]) (by kernel_rfl) (by simp) ?_
            refine AllReadyH.cons (o := { dst := some 137, op := Op.call { callee := Callee.value (Operand.func 22), args := #[Operand.tmp 134, Operand.tmp 136], argTypes := #[29, 3] }, type := 26, pos := "law.go:87", after := #[{ on := 4, ground := Ground.data }, { on := 6, ground := Ground.data }, { on := 3, ground := Ground.chain }], guard := none }) rfl (fun K hK => ?_) AllReadyH.nil
            go_simp
            refine (HB.out _ hOr.out).mono ?_
            rintro e v2 ⟨rfl, hn⟩
            have hOn : Hid (Grommet.Own w v2 [devP d (turnFrom PW.evict (8 * i) 8 ws), rowR g n (rturn RW.evict (8 * i) 8 rs), boxR d2 g n, boxP Z 35 #[.int .u8 (D : Int), .int .i64 (i : Int), .int .u64 (V : Int), .slice pa pl pc]]) := Lib.hid hn
            clear hOr hn HB
            have hOr := hOn
            clear hOn
            refine hK.out _ _ ?hsea3r29o7 (fun hS => ?_)
            case hsea3r29o7 => (exact hOr.out.box 3 rfl)
            clear hK K
            try simp only [Act.put, List.setIfInBounds_toArray, List.set_cons_zero, List.set_cons_succ]
            refine wpAnyH_take (i := 8) (oi := { dst := some 138, op := Op.binOp BinOp.eql 26 (Operand.tmp 133) (Operand.tmp 137) 26, type := 4, pos := "law.go:87", after := #[{ on := 3, ground := Ground.data }, { on := 7, ground := Ground.data }], guard := none }) (v := ?vea3r29o8) rfl (by kernel_rfl) (by kernel_rfl) (by kernel_rfl) (fun _ _ _ h => h) (Or.inl ⟨by rfl, ?hea3r29o8⟩) hS ?_
            case hea3r29o8 => (intro wx hx; skip; go_simp; (try with_reducible rfl))
            try simp only [Act.put, List.setIfInBounds_toArray, List.set_cons_zero, List.set_cons_succ]
            refine wpAnyH_take (i := 9) (oi := { dst := some 11, op := Op.assign (Operand.tmp 138), type := 4, pos := "law.go:87", after := #[{ on := 8, ground := Ground.data }, { on := 7, ground := Ground.chain }, { on := 0, ground := Ground.phase }, { on := 1, ground := Ground.phase }, { on := 2, ground := Ground.phase }, { on := 3, ground := Ground.phase }, { on := 4, ground := Ground.phase }, { on := 5, ground := Ground.phase }, { on := 6, ground := Ground.phase }, { on := 7, ground := Ground.phase }, { on := 8, ground := Ground.phase }], guard := none }) (v := ?vea3r29o9) rfl (by kernel_rfl) (by kernel_rfl) (by kernel_rfl) (fun _ _ _ h => h) (Or.inl ⟨by rfl, ?hea3r29o9⟩) hS ?_
            case hea3r29o9 => (intro wx hx; skip; go_simp; (try with_reducible rfl))
            try simp only [Act.put, List.setIfInBounds_toArray, List.set_cons_zero, List.set_cons_succ]
            refine wpAnyH_done (by kernel_rfl) ?_ _
            go_wp2_with fail
            go_meet
            case rel => exact ⟨_, _, rfl, HRel, HLn, HSm, hOr⟩
          · have hE : hasE A (n / 8) = 8 := by unfold hasE; rw [if_pos (by omega)]
            have hE2 : decide (0 ≤ A ∧ A < ((n / 8 : Nat) : Int)) = false := by rw [decide_eq_false_iff_not]; exact hin
            clear hin
            have HA := Lib.hid (fun wx (hO : Grommet.Own w wx [devP d (ws), rowR g n (rs), boxR d2 g n, boxP Z 35 #[.int .u8 (D : Int), .int .i64 A, .int .u64 (V : Int), .slice pa pl pc]]) => PEvictNoH 0 d ws A (by rw [Hwl.out]; exact hE) w wx _ hO rfl)
            have HB := Lib.hid (fun wx (hO : Grommet.Own w wx [devP d (ws), rowR g n (rs), boxR d2 g n, boxP Z 35 #[.int .u8 (D : Int), .int .i64 A, .int .u64 (V : Int), .slice pa pl pc]]) => same_own hO (REvict_no 2 1 d2 g n rs A hE2 w wx _ hO (⟨rfl, rfl, by decide, HLen.out, HSml.out, by omega⟩ : RD [devP d (ws), rowR g n (rs), boxR d2 g n, boxP Z 35 #[.int .u8 (D : Int), .int .i64 A, .int .u64 (V : Int), .slice pa pl pc]] 2 1 d2 g n (rs))))
            have hOr := Lib.hid (hO8.out.quiet (grown_drew (World.grownBy.refl _ none)))
            have hz0 : Hid (S4 Z (D : Int) A (V : Int) pa pl pc _) := Lib.hid (hOr.out.box 3 rfl)
            have HRel := Lib.hid (HRl.out)
            have HLn : Hid ((rs).length = n) := Lib.hid (HLen.out)
            have HSm : Hid (∀ c ∈ (rs), c.Small) := Lib.hid (HSml.out)
            clear hO8 y0 y1 y2 y3
            go_wp2_with fail
            refine wp_region_held_drew (S := fun w' => S4 Z (D : Int) A (V : Int) pa pl pc w') (by kernel_rfl) (hz0.out) (fun hS => ?_)
            refine wpAnyH_take (i := 0) (oi := { dst := some 130, op := Op.move (Operand.tmp 5), type := 25, pos := "law.go:87", after := #[], guard := none }) (v := ?veb3r29o0) rfl (by kernel_rfl) (by kernel_rfl) (by kernel_rfl) (fun _ _ _ h => h) (Or.inl ⟨by rfl, ?heb3r29o0⟩) hS ?_
            case heb3r29o0 => (intro wx hx; skip; go_simp; (try with_reducible rfl))
            try simp only [Act.put, List.setIfInBounds_toArray, List.set_cons_zero, List.set_cons_succ]
            refine wpAnyH_take (i := 1) (oi := { dst := some 131, op := Op.fieldAddr 35 (Operand.tmp 10) 1, type := 0, pos := "law.go:87", after := #[], guard := none }) (v := ?veb3r29o1) rfl (by kernel_rfl) (by kernel_rfl) (by kernel_rfl) (fun _ _ _ h => h) (Or.inl ⟨by rfl, ?heb3r29o1⟩) hS ?_
            case heb3r29o1 => (intro wx hx; skip; go_simp; (try with_reducible rfl))
            try simp only [Act.put, List.setIfInBounds_toArray, List.set_cons_zero, List.set_cons_succ]
            refine wpAnyH_take (i := 2) (oi := { dst := some 132, op := Op.load 3 (Operand.tmp 131), type := 3, pos := "law.go:87", after := #[{ on := 1, ground := Ground.data }], guard := none }) (v := ?veb3r29o2) rfl (by kernel_rfl) (by kernel_rfl) (by kernel_rfl) (fun _ _ _ h => h) (Or.inl ⟨by rfl, ?heb3r29o2⟩) hS ?_
            case heb3r29o2 => (intro wx hx; obtain ⟨y0, y1, y2, y3⟩ := S4.facts hx; go_simp; (try with_reducible rfl))
            try simp only [Act.put, List.setIfInBounds_toArray, List.set_cons_zero, List.set_cons_succ]
            refine wpAnyH_take (i := 4) (oi := { dst := some 134, op := Op.move (Operand.tmp 7), type := 29, pos := "law.go:87", after := #[], guard := none }) (v := ?veb3r29o4) rfl (by kernel_rfl) (by kernel_rfl) (by kernel_rfl) (fun _ _ _ h => h) (Or.inl ⟨by rfl, ?heb3r29o4⟩) hS ?_
            case heb3r29o4 => (intro wx hx; skip; go_simp; (try with_reducible rfl))
            try simp only [Act.put, List.setIfInBounds_toArray, List.set_cons_zero, List.set_cons_succ]
            refine wpAnyH_take (i := 5) (oi := { dst := some 135, op := Op.fieldAddr 35 (Operand.tmp 10) 1, type := 0, pos := "law.go:87", after := #[], guard := none }) (v := ?veb3r29o5) rfl (by kernel_rfl) (by kernel_rfl) (by kernel_rfl) (fun _ _ _ h => h) (Or.inl ⟨by rfl, ?heb3r29o5⟩) hS ?_
            case heb3r29o5 => (intro wx hx; skip; go_simp; (try with_reducible rfl))
            try simp only [Act.put, List.setIfInBounds_toArray, List.set_cons_zero, List.set_cons_succ]
            refine wpAnyH_take (i := 6) (oi := { dst := some 136, op := Op.load 3 (Operand.tmp 135), type := 3, pos := "law.go:87", after := #[{ on := 5, ground := Ground.data }], guard := none }) (v := ?veb3r29o6) rfl (by kernel_rfl) (by kernel_rfl) (by kernel_rfl) (fun _ _ _ h => h) (Or.inl ⟨by rfl, ?heb3r29o6⟩) hS ?_
            case heb3r29o6 => (intro wx hx; obtain ⟨y0, y1, y2, y3⟩ := S4.facts hx; go_simp; (try with_reducible rfl))
            try simp only [Act.put, List.setIfInBounds_toArray, List.set_cons_zero, List.set_cons_succ]
            refine wpAnyH_ready (rs := [3]) (by kernel_rfl) (by simp) ?_
            refine AllReadyH.cons (o := { dst := some 133, op := Op.call { callee := Callee.value (Operand.func 21), args := #[Operand.tmp 130, Operand.tmp 132], argTypes := #[25, 3] }, type := 26, pos := "law.go:87", after := #[{ on := 0, ground := Ground.data }, { on := 2, ground := Ground.data }], guard := none }) rfl (fun K hK => ?_) AllReadyH.nil
            go_simp
            refine (HA.out _ hOr.out).mono ?_
            rintro e v1 ⟨rfl, hn⟩
            have hOn : Hid (Grommet.Own w v1 [devP d (ws), rowR g n (rs), boxR d2 g n, boxP Z 35 #[.int .u8 (D : Int), .int .i64 A, .int .u64 (V : Int), .slice pa pl pc]]) := Lib.hid hn
            clear hOr hn HA
            have hOr := hOn
            clear hOn
            refine hK.out _ _ ?hseb3r29o3 (fun hS => ?_)
            case hseb3r29o3 => (exact hOr.out.box 3 rfl)
            clear hK K
            try simp only [Act.put, List.setIfInBounds_toArray, List.set_cons_zero, List.set_cons_succ]
            refine wpAnyH_ready (rs := [7]) (by kernel_rfl) (by simp) ?_
            refine AllReadyH.cons (o := { dst := some 137, op := Op.call { callee := Callee.value (Operand.func 22), args := #[Operand.tmp 134, Operand.tmp 136], argTypes := #[29, 3] }, type := 26, pos := "law.go:87", after := #[{ on := 4, ground := Ground.data }, { on := 6, ground := Ground.data }, { on := 3, ground := Ground.chain }], guard := none }) rfl (fun K hK => ?_) AllReadyH.nil
            go_simp
            refine (HB.out _ hOr.out).mono ?_
            rintro e v2 ⟨rfl, hn⟩
            have hOn : Hid (Grommet.Own w v2 [devP d (ws), rowR g n (rs), boxR d2 g n, boxP Z 35 #[.int .u8 (D : Int), .int .i64 A, .int .u64 (V : Int), .slice pa pl pc]]) := Lib.hid hn
            clear hOr hn HB
            have hOr := hOn
            clear hOn
            refine hK.out _ _ ?hseb3r29o7 (fun hS => ?_)
            case hseb3r29o7 => (exact hOr.out.box 3 rfl)
            clear hK K
            try simp only [Act.put, List.setIfInBounds_toArray, List.set_cons_zero, List.set_cons_succ]
            refine wpAnyH_take (i := 8) (oi := { dst := some 138, op := Op.binOp BinOp.eql 26 (Operand.tmp 133) (Operand.tmp 137) 26, type := 4, pos := "law.go:87", after := #[{ on := 3, ground := Ground.data }, { on := 7, ground := Ground.data }], guard := none }) (v := ?veb3r29o8) rfl (by kernel_rfl) (by kernel_rfl) (by kernel_rfl) (fun _ _ _ h => h) (Or.inl ⟨by rfl, ?heb3r29o8⟩) hS ?_
            case heb3r29o8 => (intro wx hx; skip; go_simp; (try with_reducible rfl))
            try simp only [Act.put, List.setIfInBounds_toArray, List.set_cons_zero, List.set_cons_succ]
            refine wpAnyH_take (i := 9) (oi := { dst := some 11, op := Op.assign (Operand.tmp 138), type := 4, pos := "law.go:87", after := #[{ on := 8, ground := Ground.data }, { on := 7, ground := Ground.chain }, { on := 0, ground := Ground.phase }, { on := 1, ground := Ground.phase }, { on := 2, ground := Ground.phase }, { on := 3, ground := Ground.phase }, { on := 4, ground := Ground.phase }, { on := 5, ground := Ground.phase }, { on := 6, ground := Ground.phase }, { on := 7, ground := Ground.phase }, { on := 8, ground := Ground.phase }], guard := none }) (v := ?veb3r29o9) rfl (by kernel_rfl) (by kernel_rfl) (by kernel_rfl) (fun _ _ _ h => h) (Or.inl ⟨by rfl, ?heb3r29o9⟩) hS ?_
            case heb3r29o9 => (intro wx hx; skip; go_simp; (try with_reducible rfl))
            try simp only [Act.put, List.setIfInBounds_toArray, List.set_cons_zero, List.set_cons_succ]
            refine wpAnyH_done (by kernel_rfl) ?_ _
            go_wp2_with fail
            go_meet
            case rel => exact ⟨_, _, rfl, HRel, HLn, HSm, hOr⟩
        · have HR := Lib.hid hr
          clear hr
          have q0 : ((rr : Int) == 0) = false := by rw [HR.out]; rfl
          have q1 : ((rr : Int) == 1) = false := by rw [HR.out]; rfl
          have q2 : ((rr : Int) == 2) = false := by rw [HR.out]; rfl
          have q3 : ((rr : Int) == 3) = false := by rw [HR.out]; rfl
          have q4 : ((rr : Int) == 4) = false := by rw [HR.out]; rfl
          have HA := Lib.hid (RCrash_ok 2 1 d2 g n rs (by omega) pa pl pc ps w _ _ hO8.out (⟨rfl, rfl, by decide, HLen.out, HSml.out, by omega⟩ : RD [devP d (ws), rowR g n (rs), boxR d2 g n, boxP Z 35 #[.int .u8 (D : Int), .int .i64 A, .int .u64 (V : Int), .slice pa pl pc]] 2 1 d2 g n (rs)) (fun wx hg => Hps.out.1.grown hg (by simp)) Hps.out.2.1 Hps.out.2.2.2.1)
          have HB := Lib.hid (fun wx (hO : Grommet.Own w wx [devP d (ws), rowR g n (rcrash rs ps n), boxR d2 g n, boxP Z 35 #[.int .u8 (D : Int), .int .i64 A, .int .u64 (V : Int), .slice pa pl pc]]) => CrashOldH 0 d ws w wx _ hO rfl N (by rw [Hwl.out]; exact HN.out) pa pc ps (Hps.out.1.grown hO.grown (by simp)) Hps.out.2.2.2.2.1 (by rw [Hps.out.2.1]; exact Hps.out.2.2.1) Hps.out.2.2.2.2.2.1 Hps.out.2.2.2.1 Hps.out.2.2.2.2.2.2)
          rw [Hps.out.2.1] at HB
          have HRel := Lib.hid (HRl.out.crash ps n HLen.out.symm)
          have HLn : Hid ((rcrash rs ps n).length = n) := Lib.hid (by rw [rcrash_len]; exact HLen.out)
          have HSm : Hid (∀ c ∈ rcrash rs ps n, c.Small) := Lib.hid (rcrash_small rs ps HSml.out n)
          clear hO8
          go_wp2_with fail
          refine HA.out.mono ?_
          rintro e w6 ⟨rfl, hO6⟩
          have HB2 := Lib.hid (HB.out w6 hO6)
          obtain ⟨y0, y1, y2, y3⟩ := S4.facts (show S4 Z (D : Int) A (V : Int) pa pl pc w6 from hO6.box 3 rfl)
          clear HA HB hO6
          go_wp2_with fail
          refine HB2.out.mono ?_
          rintro e w7 ⟨rfl, hO7⟩
          have hO7 := Lib.hid hO7
          clear HB2
          go_wp2_with fail
          go_meet
          case rel => exact ⟨_, _, rfl, HRel, HLn, HSm, hO7⟩
      case rest =>
      clear hO8 y0 y1 y2 y3 e5 e5' wr5 hr5 Hr HRl HLen HSml Hwl
      obtain ⟨ws, rs, rfl, HRl, HLen, HSml, hO8⟩ := hcut
      have Hwl : Hid (ws.length = n) := Lib.hid (by rw [HRl.out.len]; exact HLen.out)
      have HA := Lib.hid (LooseH 0 d ws w _ _ hO8.out rfl N (by rw [Hwl.out]; exact HN.out))
      have HB := Lib.hid (fun wx (hO : Grommet.Own w wx [devP d (ws), rowR g n (rs), boxR d2 g n, boxP Z 35 #[.int .u8 (D : Int), .int .i64 A, .int .u64 (V : Int), .slice pa pl pc]]) => same_own hO (RLoose_any 2 1 d2 g n rs w wx _ hO (⟨rfl, rfl, by decide, HLen.out, HSml.out, by omega⟩ : RD [devP d (ws), rowR g n (rs), boxR d2 g n, boxP Z 35 #[.int .u8 (D : Int), .int .i64 A, .int .u64 (V : Int), .slice pa pl pc]] 2 1 d2 g n (rs))))
      have HC := Lib.hid (fun wx (hO : Grommet.Own w wx [devP d (ws), rowR g n (rs), boxR d2 g n, boxP Z 35 #[.int .u8 (D : Int), .int .i64 A, .int .u64 (V : Int), .slice pa pl pc]]) => WordsH 0 d ws w wx _ hO rfl)
      rw [HRl.out.looseAll] at HA
      rw [Hwl.out] at HC
      obtain ⟨lo, hlo⟩ : ∃ lo, looseR rs = lo := ⟨_, rfl⟩
      rw [hlo] at HA HB
      have ql : ((lo : Int) != (lo : Int)) = false := by simp
      have qn : ((n : Int) != (n : Int)) = false := by simp
      unfold ptr at HA HB HC
      clear hO8 hlo
      go_wp2_with fail
      refine HA.out.mono ?_
      rintro e w6 ⟨rfl, hO6⟩
      have HB2 := Lib.hid (HB.out w6 hO6)
      clear HA HB hO6
      go_wp2_with fail
      refine HB2.out.mono ?_
      rintro e w7 ⟨rfl, hO7⟩
      have HC2 := Lib.hid (HC.out w7 hO7)
      clear HB2 HC hO7
      go_wp2_with fail
      refine HC2.out.mono ?_
      rintro e w9 ⟨rfl, hO9⟩
      have hO10 : Hid (Grommet.Own w w9 [devP d (ws), rowR g n (rs), boxR d2 g n]) := Lib.hid (Own.less hO9)
      have wk : IntKind.i64.wrap ((k : Int) + 1) = (k : Int) + 1 := IntWalk.i64_in _ ⟨by omega, by omega⟩
      clear HC2 hO9
      go_wp2
      go_roundw
      case rel => exact ⟨k + 1, ws, rs, by omega, by go_num, HRl, HLen, HSml, hO10⟩
      case measure => simp [intOf]; omega
    · have hlt' : ¬ (k : Int) < (tl : Int) := by omega
      clear hk hlt k0
      clear htl
      have Hsm := Lib.hid (dev_small hO.out (k := 0) rfl)
      have HsS : Hid (ws.map (·.sure) = colS (·.sure) rs n) := Lib.hid (by rw [colS_all _ _ _ (by rw [HLen.out]; exact Nat.le_refl _)]; exact HRl.out.same (fun c r hcr => hcr.sure))
      have HsE : Hid (ws.map (·.seen) = colS (·.seen) rs n) := Lib.hid (by rw [colS_all _ _ _ (by rw [HLen.out]; exact Nat.le_refl _)]; exact HRl.out.same (fun c r hcr => hcr.seen))
      obtain ⟨ys, hys⟩ : ∃ ys, colS (·.sure) rs n = ys := ⟨_, rfl⟩
      obtain ⟨es, hes⟩ : ∃ ys, colS (·.seen) rs n = ys := ⟨_, rfl⟩
      rw [hys] at HsS
      rw [hes] at HsE
      have HyS : Hid (ys.length = n ∧ ∀ m ∈ ys, m < 18446744073709551616) := Lib.hid ⟨by rw [← HsS.out, List.length_map, Hwl.out], by rw [← HsS.out]; intro m hm; obtain ⟨c, hc, rfl⟩ := List.mem_map.1 hm; exact (Hsm.out c hc).1⟩
      have HyE : Hid (∀ m ∈ es, m < 18446744073709551616) := Lib.hid (by rw [← HsE.out]; intro m hm; obtain ⟨c, hc, rfl⟩ := List.mem_map.1 hm; exact (Hsm.out c hc).2.1)
      have HRD : Hid (∀ Qs : List Pr, RD ([devP d (ws), rowR g n (rs), boxR d2 g n] ++ Qs) 2 1 d2 g n rs) := Lib.hid (fun Qs => ⟨rfl, rfl, by decide, HLen.out, HSml.out, by omega⟩)
      have H1 := Lib.hid (fun wx Qs (h : Grommet.Own w wx ([devP d (ws), rowR g n (rs), boxR d2 g n] ++ Qs)) => SureH 0 d ws w wx _ h rfl N (by rw [Hwl.out]; exact HN.out))
      have H2 := Lib.hid (fun wx Qs (h : Grommet.Own w wx ([devP d (ws), rowR g n (rs), boxR d2 g n] ++ Qs)) => RSure_any 2 1 d2 g n rs w wx _ h (HRD.out Qs))
      have H3 := Lib.hid (fun wx Qs (h : Grommet.Own w wx ([devP d (ws), rowR g n (rs), boxR d2 g n] ++ Qs)) => SeenH 0 d ws w wx _ h rfl N (by rw [Hwl.out]; exact HN.out))
      have H4 := Lib.hid (fun wx Qs (h : Grommet.Own w wx ([devP d (ws), rowR g n (rs), boxR d2 g n] ++ Qs)) => RSeen_any 2 1 d2 g n rs w wx _ h (HRD.out Qs))
      rw [HsS.out, Hwl.out] at H1
      rw [HsE.out, Hwl.out] at H3
      rw [hys] at H2
      rw [hes] at H4
      unfold ptr at H1 H2 H3 H4
      have H1a := Lib.hid (H1.out _ [] hO.out)
      clear hys hes HsS HsE HRD Hsm hO
      go_wp2_with fail
      refine H1a.out.mono ?_
      rintro e w6 ⟨ad1, cp1, rfl, hO6⟩
      have hl0 : 0 < ys.length := by rw [HyS.out.1]; omega
      obtain ⟨q1, rfl, e1, e2, _⟩ := Own.cell hO6 3 rfl 0 (wv (ys.getD 0 0)) (by rw [List.getElem?_map, List.getD_eq_getElem?_getD, List.getElem?_eq_getElem hl0]; rfl)
      clear e1 e2 hl0
      have hO6 : Hid (Grommet.Own w w6 ([devP d (ws), rowR g n (rs), boxR d2 g n] ++ [rowP 32 1 (.slice (some ⟨q1, 0, none⟩) n cp1) n (ys.map wv)])) := Lib.hid hO6
      have H2a := Lib.hid (H2.out w6 _ hO6.out)
      clear H1a hO6
      go_wp2_with fail
      refine H2a.out.mono ?_
      rintro e w7 ⟨ad2, cp2, rfl, hO7⟩
      have hO7 : Hid (Grommet.Own w w7 ([devP d (ws), rowR g n (rs), boxR d2 g n] ++ [rowP 32 1 (.slice (some ⟨q1, 0, none⟩) n cp1) n (ys.map wv), rowP 32 1 (.slice ad2 n cp2) n (ys.map wv)])) := Lib.hid hO7
      obtain ⟨p1, _, _⟩ := devs_words hO7.out 3 rfl HyS.out.2 (by omega)
      obtain ⟨p2, _, _⟩ := devs_words hO7.out 4 rfl HyS.out.2 (by omega)
      have HSa := Lib.hid (Same_any (some ⟨q1, 0, none⟩) ad2 n n cp1 cp2 ys ys w7 p1 p2)
      rw [decide_eq_true rfl] at HSa
      clear H2a p1 p2
      go_wp2_with fail
      refine HSa.out.mono ?_
      rintro e w8 ⟨rfl, hg8⟩
      have hO8 : Hid (Grommet.Own w w8 ([devP d (ws), rowR g n (rs), boxR d2 g n] ++ [rowP 32 1 (.slice (some ⟨q1, 0, none⟩) n cp1) n (ys.map wv)])) := Lib.hid (Own.less (Qs := [rowP 32 1 (.slice ad2 n cp2) n (ys.map wv)]) (hO7.out.quiet hg8))
      have H3a := Lib.hid (H3.out w8 _ hO8.out)
      clear hO7 hg8 HSa H3
      go_wp2_with fail
      refine H3a.out.mono ?_
      rintro e w9 ⟨ad3, cp3, rfl, hO9⟩
      have hO9 : Hid (Grommet.Own w w9 ([devP d (ws), rowR g n (rs), boxR d2 g n] ++ [rowP 32 1 (.slice (some ⟨q1, 0, none⟩) n cp1) n (ys.map wv), rowP 32 1 (.slice ad3 n cp3) n (es.map wv)])) := Lib.hid hO9
      have H4a := Lib.hid (H4.out w9 _ hO9.out)
      clear H3a H4 hO8
      go_wp2_with fail
      refine H4a.out.mono ?_
      rintro e w10 ⟨ad4, cp4, rfl, hO10⟩
      have hO10 : Hid (Grommet.Own w w10 ([devP d (ws), rowR g n (rs), boxR d2 g n] ++ [rowP 32 1 (.slice (some ⟨q1, 0, none⟩) n cp1) n (ys.map wv), rowP 32 1 (.slice ad3 n cp3) n (es.map wv), rowP 32 1 (.slice ad4 n cp4) n (es.map wv)])) := Lib.hid hO10
      obtain ⟨p1, _, _⟩ := devs_words hO10.out 4 rfl HyE.out (by omega)
      obtain ⟨p2, _, _⟩ := devs_words hO10.out 5 rfl HyE.out (by omega)
      have HSa := Lib.hid (Same_any ad3 ad4 n n cp3 cp4 es es w10 p1 p2)
      rw [decide_eq_true rfl] at HSa
      clear H4a p1 p2 hO9
      go_wp2_with fail
      refine HSa.out.mono ?_
      rintro e w11 ⟨rfl, hg11⟩
      have hO11 : Hid (Grommet.Own w w11 ([devP d (ws), rowR g n (rs), boxR d2 g n] ++ [rowP 32 1 (.slice (some ⟨q1, 0, none⟩) n cp1) n (ys.map wv)])) := Lib.hid (Own.less (Qs := [rowP 32 1 (.slice ad3 n cp3) n (es.map wv), rowP 32 1 (.slice ad4 n cp4) n (es.map wv)]) (hO10.out.quiet hg11))
      have Hys9 : Hid (∀ m ∈ ys, m < 18446744073709551616) := Lib.hid HyS.out.2
      clear HSa hO10 hg11
      go_wp2_with fail
      go_loopw [17] (fun i wx => ∃ (j : Nat) (zs : List Nat), j ≤ n ∧ i = .int .i64 (j : Int) ∧ Hid (zs.length = n) ∧ Hid (∀ m ∈ zs, m < 18446744073709551616) ∧ Hid (Grommet.Own w wx ([devP d (ws), rowR g n (rs), boxR d2 g n] ++ [rowP 32 1 (.slice (some ⟨q1, 0, none⟩) n cp1) n (zs.map wv)]))) (fun i _ => n - (intOf i).toNat)
      case atStart => exact ⟨0, ys, Nat.zero_le _, rfl, Lib.hid HyS.out.1, Hys9, hO11⟩
      case round =>
        clear hO11
        obtain ⟨j, zs, hj, rfl, Hzl, Hzs, hO⟩ := hrel
        have j0 : (0 : Int) ≤ (j : Int) := by omega
        by_cases hjn : j < n
        · have hjn' : (j : Int) < (n : Int) := by omega
          have hjl : j < zs.length := by rw [Hzl.out]; exact hjn
          have wj : IntKind.i64.wrap ((j : Int) + 1) = (j : Int) + 1 := IntWalk.i64_in _ ⟨by omega, by omega⟩
          obtain ⟨u, hu⟩ : ∃ u, zs.getD j 0 = u := ⟨_, rfl⟩
          have hul : u < 18446744073709551616 := by rw [← hu, List.getD_eq_getElem?_getD, List.getElem?_eq_getElem hjl]; exact Hzs.out _ (List.getElem_mem _)
          obtain ⟨q', he, cK, fK, _⟩ := Own.cell hO.out 3 rfl j (wv u) (by rw [List.getElem?_map, List.getElem?_eq_getElem hjl, ← hu, List.getD_eq_getElem?_getD, List.getElem?_eq_getElem hjl]; rfl)
          cases he
          unfold wv at cK
          obtain ⟨Y, hY⟩ : ∃ Y, (u + 1) % 18446744073709551616 = Y := ⟨_, rfl⟩
          have wY : IntKind.u64.wrap ((u : Int) + 1) = (Y : Int) := by rw [wrap_succ u hul, hY]
          have hO2 := hO.out.store 3 rfl j (wv Y)
          rw [← List.map_set] at hO2
          have HO2 : Hid (Grommet.Own w (wr.setCell ⟨q1, j, none⟩ (.int .u64 (Y : Int))) ([devP d (ws), rowR g n (rs), boxR d2 g n] ++ [rowP 32 1 (.slice (some ⟨q1, 0, none⟩) n cp1) n ((zs.set j Y).map wv)])) := Lib.hid hO2
          have Hzl2 : Hid ((zs.set j Y).length = n) := Lib.hid (by rw [List.length_set]; exact Hzl.out)
          have Hzs2 : Hid (∀ m ∈ zs.set j Y, m < 18446744073709551616) := Lib.hid (fun m hm => by
            rcases List.mem_or_eq_of_mem_set hm with h | h
            · exact Hzs.out m h
            · rw [h, ← hY]; exact Nat.mod_lt _ (by decide))
          clear hO hO2 hu hul hY hjl
          go_wp2
          go_roundw
          case rel => exact ⟨j + 1, zs.set j Y, by omega, by go_num, Hzl2, Hzs2, HO2⟩
          case measure => simp [intOf]; omega
        · have hjn' : ¬ (j : Int) < (n : Int) := by omega
          have H1a := Lib.hid (H1.out _ _ hO.out)
          clear hj hjn hO
          go_wp2_with fail
          refine H1a.out.mono ?_
          rintro e w12 ⟨ad5, cp5, rfl, hO12⟩
          have hO12 : Hid (Grommet.Own w w12 ([devP d (ws), rowR g n (rs), boxR d2 g n] ++ [rowP 32 1 (.slice (some ⟨q1, 0, none⟩) n cp1) n (zs.map wv), rowP 32 1 (.slice ad5 n cp5) n (ys.map wv)])) := Lib.hid hO12
          have H2a := Lib.hid (H2.out w12 _ hO12.out)
          clear H1a hO12
          go_wp2_with fail
          refine H2a.out.mono ?_
          rintro e w13 ⟨ad6, cp6, rfl, hO13⟩
          have hO13 : Hid (Grommet.Own w w13 ([devP d (ws), rowR g n (rs), boxR d2 g n] ++ [rowP 32 1 (.slice (some ⟨q1, 0, none⟩) n cp1) n (zs.map wv), rowP 32 1 (.slice ad5 n cp5) n (ys.map wv), rowP 32 1 (.slice ad6 n cp6) n (ys.map wv)])) := Lib.hid hO13
          obtain ⟨p1, _, _⟩ := devs_words hO13.out 4 rfl HyS.out.2 (by omega)
          obtain ⟨p2, _, _⟩ := devs_words hO13.out 5 rfl HyS.out.2 (by omega)
          have HSa := Lib.hid (Same_any ad5 ad6 n n cp5 cp6 ys ys w13 p1 p2)
          rw [decide_eq_true rfl] at HSa
          clear H2a p1 p2
          go_wp2_with fail
          refine HSa.out.mono ?_
          rintro e w14 ⟨rfl, hg14⟩
          have hg := Lib.hid (grown_trans hO13.out.grown hg14)
          have HWk := Lib.hid (works_ev w14)
          clear HSa hO13 hg14
          go_wp2_with fail
          refine HWk.out.mono ?_
          rintro e w15 ⟨rfl, hg15⟩
          have hfin := Lib.hid (grown_trans hg.out hg15)
          clear hg15
          go_wp2
          go_ret
          exact ⟨rfl, hfin.out⟩

theorem walk (a : Int) (td : Option Addr) (tl tc : Nat) (T : List Pst) (w : World) (_ : (Lit.int .i64 a).wf = true) (hT : PstsIn w td tl T) :
    Calls Try.prog 3 #[.int .i64 a, .slice td tl tc] w (Go.Ev.WorksIs w) := by
  by_cases h : ¬ (tl ≤ 200 ∧ ∀ x ∈ T, x.pl ≤ 100) ∨ 512 < a
  · exact walk_far a td tl tc T w hT h
  · have hb : decide (tl ≤ 200 ∧ ∀ x ∈ T, x.pl ≤ 100) = true := by
      rw [decide_eq_true_iff]
      exact Decidable.byContradiction fun hc => h (.inl hc)
    have ha : a ≤ 512 := by
      have : ¬ 512 < a := fun hc => h (.inr hc)
      omega
    by_cases h2 : a < 8 ∨ 512 < a ∨ a % 8 ≠ 0
    · exact walk_no a td tl tc T w hT hb ha h2
    · obtain ⟨n, rfl⟩ := Int.eq_ofNat_of_zero_le (show 0 ≤ a by omega)
      exact walk_at n (n / 8) td tl tc T w hT hb (by omega) (by omega) (by omega)
end Go.Proofs.Ytimihchklecabaa.pmemPlays
