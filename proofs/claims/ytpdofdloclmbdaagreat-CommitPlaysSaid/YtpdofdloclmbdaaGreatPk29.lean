/- Texts of ours, packed. -/
import Derived.Test.YtpdofdloclmbdaaGreatPk28
import Derived.Test.YtpdofdloclmbdaaGreatPk25
import Derived.Test.YtpdofdloclmbdaaGreatPk22
import Derived.Test.YtpdofdloclmbdaaGreatPk27
import Derived.Test.YtpdofdloclmbdaaGreatPk16
import Derived.Test.YtpdofdloclmbdaaGreatPk15
import Derived.Test.YtpdofdloclmbdaaGreatPk19
section
/- CommitPlays: few; refusals of the program's runs; runs of any geometry. -/
namespace Go.Proofs.YtpdofdloclmbdaaGreat
open Go.RowKit Go.Grommet
set_option linter.unusedVariables false

def fewB (tl : Nat) (L : List Wst) : Bool := decide (tl ≤ 60 ∧ ∀ x ∈ L, x.ll ≤ 120 ∧ x.pkl ≤ 100)
set_option maxRecDepth 100000 in
set_option maxHeartbeats 2000000 in
theorem fewP (td : Option Addr) (tl tc : Nat) (L : List Wst) (w : World) (hL : WstsIn w td tl L) (b : Bool) (hb : fewB tl L = b) :
    Calls Tryz.prog 6 #[.slice td tl tc, .int .i64 60] w fun e w' => e = .returned (.bool b) ∧ w' = w := by
  unfold fewB at hb
  by_cases h1 : 60 < tl
  · have h1' : (60 : Int) < (tl : Int) := by omega
    obtain rfl : false = b := by rw [← hb]; simp; omega
    clear hb hL
    go_enter Tryz.func6, Tryz.ntmps6
    go_wp2
    go_ret
    exact ⟨rfl, rfl⟩
  · have h1' : ¬ (60 : Int) < (tl : Int) := by omega
    have HL := Lib.hid hL
    have Hb := Lib.hid hb
    clear hb hL
    go_enter Tryz.func6, Tryz.ntmps6
    go_wp2_with fail
    go_loopw [5] (fun s wr => ∃ k : Nat, k ≤ tl ∧ s = .int .i64 (k : Int) ∧ Hid (∀ x ∈ L.take k, x.ll ≤ 120 ∧ x.pkl ≤ 100) ∧ wr = w) (fun s _ => tl - (intOf s).toNat)
    case atStart => exact ⟨0, Nat.zero_le _, rfl, Lib.hid (by simp), rfl⟩
    case round =>
      obtain ⟨k, hk, rfl, hS, rfl⟩ := hrel
      have k0 : (0 : Int) ≤ (k : Int) := by omega
      by_cases hlt : k < tl
      · have hlt' : (k : Int) < (tl : Int) := by omega
        have hkL : k < L.length := by rw [HL.out.1]; exact hlt
        obtain ⟨⟨tg, to', rfl, _, _, d2, _, _, d5, _⟩, _⟩ := HL.out.2.2 k L[k] (List.getElem?_eq_getElem hkL)
        have wk : IntKind.i64.wrap ((k : Int) + 1) = (k : Int) + 1 := IntWalk.i64_in _ ⟨by omega, by omega⟩
        obtain ⟨x, hx⟩ : ∃ x, L[k] = x := ⟨_, rfl⟩
        rw [hx] at d2 d5
        have hxm : x ∈ L := by rw [← hx]; exact List.getElem_mem hkL
        by_cases hp : 120 < x.ll
        · have hp' : (120 : Int) < (x.ll : Int) := by omega
          obtain rfl : false = b := by
            rw [← Hb.out]
            symm
            rw [decide_eq_false_iff_not]
            intro h
            have := h.2 x hxm
            omega
          clear hx hp hS hxm
          generalize x.ll = q at d2 hp'
          generalize x.pkl = q2 at d5
          go_wp2
          go_ret
          exact ⟨rfl, rfl⟩
        · have hp' : ¬ (120 : Int) < (x.ll : Int) := by omega
          by_cases hq : 100 < x.pkl
          · have hq' : (100 : Int) < (x.pkl : Int) := by omega
            obtain rfl : false = b := by
              rw [← Hb.out]
              symm
              rw [decide_eq_false_iff_not]
              intro h
              have := h.2 x hxm
              omega
            clear hx hp hS hxm hq
            generalize x.ll = q at d2 hp'
            generalize x.pkl = q2 at d5 hq'
            go_wp2
            go_ret
            exact ⟨rfl, rfl⟩
          · have hq' : ¬ (100 : Int) < (x.pkl : Int) := by omega
            have hS2 : Hid (∀ x ∈ L.take (k + 1), x.ll ≤ 120 ∧ x.pkl ≤ 100) := Lib.hid (fun y hy => by
              rw [List.take_succ_eq_append_getElem hkL] at hy
              rcases List.mem_append.1 hy with h | h
              · exact hS.out y h
              · rw [List.mem_singleton.1 h, hx]; omega)
            have hk1 : k + 1 ≤ tl := by omega
            clear hx hp hS hxm hq
            generalize x.ll = q at d2 hp'
            generalize x.pkl = q2 at d5 hq'
            go_wp2
            go_roundw
            case rel => exact ⟨k + 1, hk1, by go_num, hS2, trivial⟩
            case measure => simp [intOf]; omega
      · obtain rfl : tl = k := by omega
        have hlt' : ¬ (tl : Int) < (tl : Int) := by omega
        obtain rfl : true = b := by
          rw [← Hb.out]
          symm
          rw [decide_eq_true_iff]
          refine ⟨by omega, fun x hx => hS.out x ?_⟩
          rw [List.take_of_length_le (by rw [HL.out.1]; exact Nat.le_refl _)]
          exact hx
        go_wp2
        go_ret
        exact ⟨rfl, rfl⟩

set_option maxRecDepth 100000 in
set_option maxHeartbeats 1000000 in
theorem BeginPS (k R D : Nat) (a b c : Int) (A : Nat) (Bs : List Nat) (Pn : List (Cl × Value)) (S : List (Nat × Cl)) (hS0 : 0 < S.length) (ad : Option Addr) (m cap : Nat) (w0 w : World) (Ps : List Pr) (h : Grommet.Own w0 w Ps) (hk : Ps[k]? = some (runP R D a b c A Bs Pn S)) :
    Calls Tryz.prog 13 #[ptr R, .slice ad m cap] w fun e w' => e = .returned (.int .i64 3) ∧ w' = w := by
  obtain ⟨_, _, _, _, _, ⟨ads, caps, c5⟩, _, _⟩ := run_cells h k hk
  generalize S.length = n at c5 hS0
  have n1 : (0 : Int) < (n : Int) := by omega
  unfold ptr
  clear h hk
  go_enter Tryz.func13, Tryz.ntmps13
  go_wp2
  go_ret
  exact ⟨rfl, rfl⟩
set_option maxRecDepth 100000 in
set_option maxHeartbeats 1000000 in
theorem ResumePS (k R D : Nat) (a b c : Int) (A : Nat) (Bs : List Nat) (Pn : List (Cl × Value)) (S : List (Nat × Cl)) (hS0 : 0 < S.length) (w0 w : World) (Ps : List Pr) (h : Grommet.Own w0 w Ps) (hk : Ps[k]? = some (runP R D a b c A Bs Pn S)) :
    Calls Tryz.prog 15 #[ptr R] w fun e w' => e = .returned (.tuple #[.bool false, .int .i64 3]) ∧ w' = w := by
  obtain ⟨_, _, _, _, _, ⟨ads, caps, c5⟩, _, _⟩ := run_cells h k hk
  generalize S.length = n at c5 hS0
  have n1 : (0 : Int) < (n : Int) := by omega
  unfold ptr
  clear h hk
  go_enter Tryz.func15, Tryz.ntmps15
  go_wp2
  go_ret2
  exact ⟨rfl, rfl⟩
set_option maxRecDepth 100000 in
set_option maxHeartbeats 1000000 in
theorem BeginPA (k R D : Nat) (a b c : Int) (A : Nat) (Bs : List Nat) (Pn : List (Cl × Value)) (ad : Option Addr) (n cap : Nat) (W : List (Int × Nat)) (w0 w : World) (Ps : List Pr) (h : Grommet.Own w0 w Ps) (hk : Ps[k]? = some (runP R D a b c A Bs Pn [])) (hat : At w ad (icells W)) (hn : W.length = n) (hwf : ∀ p ∈ W, (Lit.int .i64 p.1).wf = true) (hmay : mayW a b c W = false) :
    Calls Tryz.prog 13 #[ptr R, .slice ad n cap] w fun e w' => e = .returned (.int .i64 1) ∧ w.grownBy w' none := by
  obtain ⟨_, c1, c2, c3, _, ⟨ads, caps, c5⟩, _, _⟩ := run_cells h k hk
  have c5 : w.cell? ⟨R, 5, none⟩ = some (.slice ads 0 caps) := c5
  have HMy := Lib.hid (RMay0_any a b c ad n cap W w hat hn hwf)
  rw [hmay] at HMy
  unfold BoolIs gv at HMy
  unfold ptr
  clear h hk hat hn hwf hmay
  go_enter Tryz.func13, Tryz.ntmps13
  go_wp2_with fail
  refine HMy.out.mono ?_
  rintro e w1 ⟨rfl, hg1⟩
  go_wp2
  go_ret
  exact ⟨rfl, hg1⟩
theorem StepVE (k R D : Nat) (a b c : Int) (A : Nat) (w0 w : World) (Ps : List Pr) (h : Grommet.Own w0 w Ps) (hk : Ps[k]? = some (runE R D a b c A [])) :
    Calls Tryz.prog 23 #[ptr R] w fun e w' => e = .returned (.tuple #[.int .u8 0, .int .i64 3]) ∧ w' = w := by
  obtain ⟨Bs, Pn, hO⟩ := run_open h k hk
  exact StepE k R D a b c A Bs Pn w0 w _ hO (List.getElem?_set_self (List.getElem?_eq_some_iff.1 hk).1)
theorem BeginVS (k R D : Nat) (a b c : Int) (A : Nat) (S : List (Nat × Cl)) (hS0 : 0 < S.length) (ad : Option Addr) (m cap : Nat) (w0 w : World) (Ps : List Pr) (h : Grommet.Own w0 w Ps) (hk : Ps[k]? = some (runE R D a b c A S)) :
    Calls Tryz.prog 13 #[ptr R, .slice ad m cap] w fun e w' => e = .returned (.int .i64 3) ∧ w' = w := by
  obtain ⟨Bs, Pn, hO⟩ := run_open h k hk
  exact BeginPS k R D a b c A Bs Pn S hS0 ad m cap w0 w _ hO (List.getElem?_set_self (List.getElem?_eq_some_iff.1 hk).1)
theorem BeginVA (k R D : Nat) (a b c : Int) (A : Nat) (ad : Option Addr) (n cap : Nat) (W : List (Int × Nat)) (w0 w : World) (Ps : List Pr) (h : Grommet.Own w0 w Ps) (hk : Ps[k]? = some (runE R D a b c A [])) (hat : At w ad (icells W)) (hn : W.length = n) (hwf : ∀ p ∈ W, (Lit.int .i64 p.1).wf = true) (hmay : mayW a b c W = false) :
    Calls Tryz.prog 13 #[ptr R, .slice ad n cap] w fun e w' => e = .returned (.int .i64 1) ∧ w.grownBy w' none := by
  obtain ⟨Bs, Pn, hO⟩ := run_open h k hk
  exact BeginPA k R D a b c A Bs Pn ad n cap W w0 w _ hO (List.getElem?_set_self (List.getElem?_eq_some_iff.1 hk).1) hat hn hwf hmay
theorem ResumeVS (k R D : Nat) (a b c : Int) (A : Nat) (S : List (Nat × Cl)) (hS0 : 0 < S.length) (w0 w : World) (Ps : List Pr) (h : Grommet.Own w0 w Ps) (hk : Ps[k]? = some (runE R D a b c A S)) :
    Calls Tryz.prog 15 #[ptr R] w fun e w' => e = .returned (.tuple #[.bool false, .int .i64 3]) ∧ w' = w := by
  obtain ⟨Bs, Pn, hO⟩ := run_open h k hk
  exact ResumePS k R D a b c A Bs Pn S hS0 w0 w _ hO (List.getElem?_set_self (List.getElem?_eq_some_iff.1 hk).1)
theorem ResumeVB (k j R D : Nat) (a b c : Nat) (A : Nat) (ws : List PW) (N M : Nat) (w0 w : World) (Ps : List Pr) (h : Grommet.Own w0 w Ps) (hk : Ps[k]? = some (runE R D (a : Int) (b : Int) (c : Int) A [])) (hj : Ps[j]? = some (devP D ws)) (hjk : j ≠ k) (hN : ws.length = 8 * N) (hf : ws.length ≤ 65536) (hx : ∀ v ∈ ws.map (·.seen), v < 18446744073709551616) (hA : A + 208 ≤ ws.length)
    (hm : mayB (a : Int) (b : Int) (c : Int) = true) (hw : 280 + 208 * a + 16 * b + 8 * c ≤ 8 * M) (hAM : A / 8 < M) (hM : M ≤ 10000) :
    Calls Tryz.prog 15 #[ptr R] w fun e w' => e = .returned (.tuple #[.bool (!decide ((ws.map (·.seen)).getD A 0 = 0)), .int .i64 0]) ∧ Grommet.Own w0 w' (Ps.set k (runE R D (a : Int) (b : Int) (c : Int) A (goS M A (a : Int) (b : Int) (c : Int) (ws.map (·.seen))))) := by
  have hkl := (List.getElem?_eq_some_iff.1 hk).1
  obtain ⟨Bs, Pn, hO⟩ := run_open h k hk
  have hk2 := List.getElem?_set_self (a := runP R D (a : Int) (b : Int) (c : Int) A Bs Pn []) hkl
  have hj2 : (Ps.set k (runP R D (a : Int) (b : Int) (c : Int) A Bs Pn []))[j]? = some (devP D ws) := by rw [List.getElem?_set_ne (fun e => hjk e.symm)]; exact hj
  unfold goS
  by_cases h0 : (ws.map (·.seen)).getD A 0 = 0
  · rw [if_pos h0]
    refine (ResumeNo k j R D a b c A Bs Pn ws N w0 w _ hO hk2 hj2 hN hf hx (by omega) h0).mono ?_
    rintro e w' ⟨rfl, hO'⟩
    have := run_close hO' k hk2
    rw [List.set_set] at this
    exact ⟨by rw [decide_eq_true h0]; rfl, this⟩
  · rw [if_neg h0]
    unfold resS
    by_cases hB : commB (a : Int) (b : Int) (c : Int) (ws.map (·.seen)) A = true
    · rw [if_pos hB]
      refine (ResumeYes k j R D a b c A Bs Pn ws N M w0 w _ hO hk2 hj2 hN hf hx hA h0 hB (fun x hx => ?_) hAM hM).mono ?_
      · have := (comm_ok hm hB x hx).1
        omega
      · rintro e w' ⟨rfl, Bs', Pn', hO'⟩
        rw [List.set_set] at hO'
        have := run_close hO' k (List.getElem?_set_self hkl)
        rw [List.set_set] at this
        exact ⟨by rw [decide_eq_false h0]; rfl, this⟩
    · rw [if_neg hB]
      refine (ResumeBad k j R D a b c A Bs Pn ws N M w0 w _ hO hk2 hj2 hN hf hx hA h0 (by simpa using hB) hAM hM).mono ?_
      rintro e w' ⟨rfl, Bs', Pn', hO'⟩
      rw [List.set_set] at hO'
      have := run_close hO' k (List.getElem?_set_self hkl)
      rw [List.set_set] at this
      exact ⟨by rw [decide_eq_false h0]; rfl, this⟩

/-- The runs of the first workers. -/
def runsB (d a b c : Nat) (Rs : Nat → Nat) (Sv : Nat → List (Nat × Cl)) (t : Nat) : List Pr := (List.range t).map fun k => runE (Rs k) d (a : Int) (b : Int) (c : Int) (264 + 208 * k) (Sv k)
theorem runsB_len (d a b c : Nat) (Rs : Nat → Nat) (Sv : Nat → List (Nat × Cl)) (t : Nat) : (runsB d a b c Rs Sv t).length = t := by simp [runsB]
theorem runsB_get (d a b c : Nat) (Rs : Nat → Nat) (Sv : Nat → List (Nat × Cl)) {t k : Nat} (hk : k < t) : (runsB d a b c Rs Sv t)[k]? = some (runE (Rs k) d (a : Int) (b : Int) (c : Int) (264 + 208 * k) (Sv k)) := by
  unfold runsB; rw [List.getElem?_map, List.getElem?_range hk]; rfl
theorem runsB_set (d a b c : Nat) (Rs : Nat → Nat) (Sv : Nat → List (Nat × Cl)) (t k : Nat) (S : List (Nat × Cl)) : (runsB d a b c Rs Sv t).set k (runE (Rs k) d (a : Int) (b : Int) (c : Int) (264 + 208 * k) S) = runsB d a b c Rs (fun j => if j = k then S else Sv j) t := by
  apply List.ext_getElem?
  intro i
  by_cases hi : i < t
  · rw [runsB_get _ _ _ _ _ _ hi]
    by_cases e : k = i
    · subst e
      rw [List.getElem?_set_self (by rw [runsB_len]; exact hi)]
      simp
    · rw [List.getElem?_set_ne e, runsB_get _ _ _ _ _ _ hi, if_neg (fun x => e x.symm)]
  · rw [List.getElem?_eq_none (by rw [List.length_set, runsB_len]; omega), List.getElem?_eq_none (by rw [runsB_len]; omega)]
theorem runsB_snoc (d a b c : Nat) (Rs : Nat → Nat) (Sv : Nat → List (Nat × Cl)) (t : Nat) : runsB d a b c Rs Sv (t + 1) = runsB d a b c Rs Sv t ++ [runE (Rs t) d (a : Int) (b : Int) (c : Int) (264 + 208 * t) (Sv t)] := by
  unfold runsB; rw [List.range_succ, List.map_append]; rfl
theorem runsB_congr (d a b c : Nat) {Rs Rs' : Nat → Nat} {Sv Sv' : Nat → List (Nat × Cl)} {t : Nat} (h1 : ∀ k, k < t → Rs k = Rs' k) (h2 : ∀ k, k < t → Sv k = Sv' k) : runsB d a b c Rs Sv t = runsB d a b c Rs' Sv' t := by
  unfold runsB
  apply List.map_congr_left
  intro k hk
  have := List.mem_range.1 hk
  rw [h1 k this, h2 k this]
def RunsAnsB (w0 : World) (Ps : List Pr) (d a b c : Nat) (e : Ending) (w' : World) : Prop := ∃ Rs ad cap, e = .returned (.tuple #[.slice ad a cap, .bool true]) ∧ Grommet.Own w0 w' ((Ps ++ [rowP 48 1 (.slice ad a cap) a (ptrsL Rs a)]) ++ runsB d a b c Rs (fun _ => []) a)

set_option maxRecDepth 100000 in
set_option maxHeartbeats 4000000 in
theorem runsBH (j d a b c : Nat) (ws : List PW) (w0 w : World) (Ps : List Pr) (h : Grommet.Own w0 w Ps) (hj : Ps[j]? = some (devP d ws)) (ha : 1 ≤ a ∧ a ≤ 4) (hmay : mayB (a : Int) (b : Int) (c : Int) = true) (hw : 280 + 208 * a + 16 * b + 8 * c ≤ ws.length) :
    Calls Tryz.prog 11 #[ptr d, gv (a : Int) (b : Int) (c : Int)] w (RunsAnsB w0 Ps d a b c) := by
  have hjl := (List.getElem?_eq_some_iff.1 hj).1
  obtain ⟨G, hG⟩ : ∃ G, w.heap.size = G := ⟨_, rfl⟩
  obtain ⟨w1, hw1⟩ : ∃ w1, w.alloc (.cells #[.int .i64 (a : Int), .int .i64 (b : Int), .int .i64 (c : Int)] 26) = w1 := ⟨_, rfl⟩
  have hO1 : Grommet.Own w0 w1 (Ps ++ [boxP G 26 #[.int .i64 (a : Int), .int .i64 (b : Int), .int .i64 (c : Int)]]) := by rw [← hw1, ← hG]; exact h.addBox _ _
  obtain ⟨Qs, hQs⟩ : ∃ Qs, Ps ++ [boxP G 26 #[.int .i64 (a : Int), .int .i64 (b : Int), .int .i64 (c : Int)]] = Qs := ⟨_, rfl⟩
  have hQl : Qs.length = Ps.length + 1 := by rw [← hQs]; simp
  have hQj : Qs[j]? = some (devP d ws) := by rw [← hQs, List.getElem?_append_left hjl]; exact hj
  have hQG : Qs[Ps.length]? = some (boxP G 26 #[.int .i64 (a : Int), .int .i64 (b : Int), .int .i64 (c : Int)]) := by rw [← hQs]; exact last_get
  rw [hQs] at hO1
  have hO2 : Grommet.Own w0 w1 ((Qs ++ [rowP 48 1 (.slice none 0 0) 0 (ptrsL (fun _ => 0) 0)]) ++ runsB d a b c (fun _ => 0) (fun _ => []) 0) := by
    have := hO1.add (P := rowP 48 1 (.slice none 0 0) 0 []) (F := fun _ => False) ⟨World.ownsRow_nil _ _ _ _, ⟨fun i hi => (by cases hi), fun i hi => False.elim hi⟩⟩ (fun i hi => False.elim hi) (World.grownBy.refl _ _)
    rw [show runsB d a b c (fun _ => 0) (fun _ => []) 0 = [] from rfl, List.append_nil]
    exact this
  have HG := Lib.hid (fun wx Rs t ad cap (hO : Grommet.Own w0 wx ((Qs ++ [rowP 48 1 (.slice ad t cap) t (ptrsL Rs t)]) ++ runsB d a b c Rs (fun _ => []) t)) => GeoQ.cells (show GeoQ G (a : Int) (b : Int) (c : Int) wx from hO.box Ps.length (by rw [List.append_assoc, List.getElem?_append_left (by omega)]; exact hQG)))
  have HN := Lib.hid (fun wx Rs t ad cap (ht : t < a) (hO : Grommet.Own w0 wx ((Qs ++ [rowP 48 1 (.slice ad t cap) t (ptrsL Rs t)]) ++ runsB d a b c Rs (fun _ => []) t)) => RNewH j d a b c t (264 + 208 * t) ws w0 wx _ hO (by rw [List.append_assoc, List.getElem?_append_left (by have := (List.getElem?_eq_some_iff.1 hQj).1; omega)]; exact hQj) (by unfold areaV; rw [if_pos ⟨hmay, by omega, by omega⟩]; omega) (by rw [words_pos hmay]; omega))
  have HA0 : ∀ wx Rs t ad cap R, t < a → Grommet.Own w0 wx (((Qs ++ [rowP 48 1 (.slice ad t cap) t (ptrsL Rs t)]) ++ runsB d a b c Rs (fun _ => []) t) ++ [runP R d (a : Int) (b : Int) (c : Int) (264 + 208 * t) [] [] []]) →
      ∃ ad' cap' w2 Rs', (Builtin.append_ #[35, 35] 35 #[.slice ad t cap, .slice (some ⟨wx.heap.size, 0, none⟩) 1 1]).run Tryz.prog (wx.alloc (.cells #[ptr R] 48)) = .ok (.slice ad' (t + 1) cap') w2 ∧ Grommet.Own w0 w2 ((Qs ++ [rowP 48 1 (.slice ad' (t + 1) cap') (t + 1) (ptrsL Rs' (t + 1))]) ++ runsB d a b c Rs' (fun _ => []) (t + 1)) := by
    intro wx Rs t ad cap R ht hO
    obtain ⟨Rs', hRs⟩ : ∃ Rs' : Nat → Nat, ∀ k, Rs' k = if k = t then R else Rs k := ⟨fun k => if k = t then R else Rs k, fun _ => rfl⟩
    have hR1 : ∀ k, k < t → Rs' k = Rs k := fun k hk => by rw [hRs, if_neg (by omega)]
    have hRt : Rs' t = R := by rw [hRs, if_pos rfl]
    have hO' := run_close hO ((Qs ++ [rowP 48 1 (.slice ad t cap) t (ptrsL Rs t)]) ++ runsB d a b c Rs (fun _ => []) t).length last_get
    rw [List.set_append_right _ _ (Nat.le_refl _), Nat.sub_self, List.set_cons_zero] at hO'
    obtain ⟨ad', cap', w2, hr, hO2⟩ := ptr_added hO' Qs.length (xs := ptrsL Rs t) (n := t) (ad := ad) (cap := cap) (by rw [List.append_assoc, List.append_assoc, List.getElem?_append_right (Nat.le_refl _), Nat.sub_self]; rfl) R 35 (by omega)
    refine ⟨ad', cap', w2, Rs', hr, ?_⟩
    rw [ptrsL_snoc, hRt, ptrsL_congr hR1, runsB_snoc, hRt, runsB_congr d a b c hR1 (fun _ _ => rfl), ← List.append_assoc]
    rw [List.append_assoc, List.append_assoc, List.set_append_right _ _ (Nat.le_refl _), Nat.sub_self] at hO2
    rw [List.append_assoc, List.append_assoc]
    exact hO2
  have HA := Lib.hid HA0
  have HE0 : ∀ wx Rs ad cap, Grommet.Own w0 wx ((Qs ++ [rowP 48 1 (.slice ad a cap) a (ptrsL Rs a)]) ++ runsB d a b c Rs (fun _ => []) a) → Grommet.Own w0 wx ((Ps ++ [rowP 48 1 (.slice ad a cap) a (ptrsL Rs a)]) ++ runsB d a b c Rs (fun _ => []) a) := by
    intro wx Rs ad cap hO
    rw [← hQs, List.append_assoc, List.append_assoc] at hO
    rw [List.append_assoc]
    exact own_skip hO
  have HE := Lib.hid HE0
  have hb : w1.heap[G]? = some (.cells #[.int .i64 (a : Int), .int .i64 (b : Int), .int .i64 (c : Int)] 26 (0, 0)) := by rw [← hw1, ← hG]; exact heap_alloc_new w _
  have hz0 := Lib.hid hO2
  unfold gv at HN ⊢
  unfold ptr at HN HA ⊢
  clear h hj hO1 hO2 HA0 HE0 hQs hQl hQj hQG hjl hmay hb
  go_enter Tryz.func11, Tryz.ntmps11
  go_wp2_with fail
  go_loopw [6, 7, 8, 9] (fun lv i _ _ wr => ∃ (t : Nat) (Rs : Nat → Nat) (ad : Option Addr) (cap : Nat), t ≤ a ∧ i = .int .i64 (t : Int) ∧ lv = .slice ad t cap ∧ Hid (Grommet.Own w0 wr ((Qs ++ [rowP 48 1 (.slice ad t cap) t (ptrsL Rs t)]) ++ runsB d a b c Rs (fun _ => []) t))) (fun _ i _ _ _ => a - (intOf i).toNat)
  case atStart => exact ⟨0, _, none, 0, Nat.zero_le _, rfl, rfl, hz0⟩
  case round =>
    clear hz0
    obtain ⟨t, Rs, ad, cap, ht, rfl, rfl, hO⟩ := hrel
    have t0 : (0 : Int) ≤ (t : Int) := by omega
    obtain ⟨c0, c1, c2⟩ := HG.out _ _ _ _ _ hO.out
    by_cases hlt : t < a
    · as_aux_lemma =>
      have hlt' : (t : Int) < (a : Int) := by omega
      have wt : IntKind.i64.wrap ((t : Int) + 1) = (t : Int) + 1 := IntWalk.i64_in _ ⟨by omega, by omega⟩
      have HN2 := Lib.hid (HN.out _ _ _ _ _ hlt hO.out)
      clear HN HG HE hO
      go_wp2_with fail
      refine HN2.out.mono ?_
      rintro e w2 ⟨R, rfl, hO2⟩
      obtain ⟨ad2, cap2, w3, Rs2, hr, hO3⟩ := HA.out _ _ _ _ _ _ hlt hO2
      have hO3 := Lib.hid hO3
      clear HN2 HA hO2 c0 c1 c2
      go_wp2_with (at_builtin; refine wpList_append_run rfl _ _ _ rfl _ _ _ rfl rfl hr ?_)
      go_roundw
      case rel => exact ⟨t + 1, Rs2, ad2, cap2, by omega, by go_num, rfl, hO3⟩
      case measure => simp [intOf]; omega
    · as_aux_lemma =>
      obtain rfl : a = t := by omega
      have hlt' : ¬ (a : Int) < (a : Int) := by omega
      have hfin := Lib.hid (HE.out _ _ _ _ hO.out)
      clear HN HG HA HE hO
      go_wp2
      go_ret2
      exact ⟨_, _, _, rfl, hfin.out⟩
end Go.Proofs.YtpdofdloclmbdaaGreat
end
section
/- CommitPlays: New of the document's run; its runs in a row. -/
namespace Go.Proofs.YtpdofdloclmbdaaGreat
open Go.RowKit Go.Grommet
set_option linter.unusedVariables false

theorem infoRRun : (Tryz.prog.info? 39).map (fun i => (i.zero, i.size, i.bytes)) = some (some (.pointer none), 1, 8) := by kernel_rfl
theorem rptr_added {w0 w : World} {Qs : List Pr} (h : Grommet.Own w0 w Qs) (k : Nat) {ad : Option Addr} {n cap : Nat} {xs : List Value} (hk : Qs[k]? = some (rowP 39 1 (.slice ad n cap) n xs)) (R : Nat) (ty : TypeId) (hn : n ≤ 1000) :
    ∃ ad' cap' w2, (Builtin.append_ #[38, 38] ty #[.slice ad n cap, .slice (some ⟨w.heap.size, 0, none⟩) 1 1]).run Tryz.prog (w.alloc (.cells #[ptr R] 39)) = .ok (.slice ad' (n + 1) cap') w2 ∧ Grommet.Own w0 w2 (Qs.set k (rowP 39 1 (.slice ad' (n + 1) cap') (n + 1) (xs ++ [ptr R]))) := by
  obtain ⟨i0, hi, hz0, hz1, hz2⟩ := info_parts infoRRun
  have hO1 := h.quiet (World.grownBy_alloc w (.cells #[ptr R] 39) none)
  have hrow := Own.row hO1 k hk
  have hnews : ∀ j u, [ptr R][j]? = some u → (w.alloc (.cells #[ptr R] 39)).cell? ((⟨w.heap.size, 0, none⟩ : Addr).add j) = some u := (at_of_row (heap_alloc_new w (.cells #[ptr R] 39))).some
  have h1 : ∀ u ∈ [ptr R], u.oneCell' = true := by intro u hu; simp at hu; subst hu; rfl
  obtain ⟨v', w', hr, h2, h3, h4⟩ := run_append_blk (P := Tryz.prog) (w.alloc (.cells #[ptr R] 39)) 0 38 ty 39 i0 (.pointer none) 1 8 Tryz.underlying38 hi hz0 hz1 hz2 rfl (by decide) (.slice ad n cap) n xs hrow ⟨w.heap.size, 0, none⟩ 1 1 [ptr R] rfl hnews h1 (by unfold maxLen; omega) (by omega) (Nat.zero_le _)
  obtain ⟨ad', cap', rfl, _⟩ := row_slice h2
  exact ⟨ad', cap', w', hr, Own.append hO1 k hk h2 h3 h4⟩

/-- The document's runs of the first workers. -/
def refsB (d a b c : Nat) (Rs : Nat → Nat) (Sv : Nat → List (Nat × Cl)) (t : Nat) : List Pr := (List.range t).map fun k => refP (Rs k) d (a : Int) (b : Int) (c : Int) (k : Int) (Sv k)
theorem refsB_len (d a b c : Nat) (Rs : Nat → Nat) (Sv : Nat → List (Nat × Cl)) (t : Nat) : (refsB d a b c Rs Sv t).length = t := by simp [refsB]
theorem refsB_get (d a b c : Nat) (Rs : Nat → Nat) (Sv : Nat → List (Nat × Cl)) {t k : Nat} (hk : k < t) : (refsB d a b c Rs Sv t)[k]? = some (refP (Rs k) d (a : Int) (b : Int) (c : Int) (k : Int) (Sv k)) := by
  unfold refsB; rw [List.getElem?_map, List.getElem?_range hk]; rfl
theorem refsB_set (d a b c : Nat) (Rs : Nat → Nat) (Sv : Nat → List (Nat × Cl)) (t k : Nat) (S : List (Nat × Cl)) : (refsB d a b c Rs Sv t).set k (refP (Rs k) d (a : Int) (b : Int) (c : Int) (k : Int) S) = refsB d a b c Rs (fun j => if j = k then S else Sv j) t := by
  apply List.ext_getElem?
  intro i
  by_cases hi : i < t
  · rw [refsB_get _ _ _ _ _ _ hi]
    by_cases e : k = i
    · subst e
      rw [List.getElem?_set_self (by rw [refsB_len]; exact hi)]
      simp
    · rw [List.getElem?_set_ne e, refsB_get _ _ _ _ _ _ hi, if_neg (fun x => e x.symm)]
  · rw [List.getElem?_eq_none (by rw [List.length_set, refsB_len]; omega), List.getElem?_eq_none (by rw [refsB_len]; omega)]
theorem refsB_snoc (d a b c : Nat) (Rs : Nat → Nat) (Sv : Nat → List (Nat × Cl)) (t : Nat) : refsB d a b c Rs Sv (t + 1) = refsB d a b c Rs Sv t ++ [refP (Rs t) d (a : Int) (b : Int) (c : Int) (t : Int) (Sv t)] := by
  unfold refsB; rw [List.range_succ, List.map_append]; rfl
theorem refsB_congr (d a b c : Nat) {Rs Rs' : Nat → Nat} {Sv Sv' : Nat → List (Nat × Cl)} {t : Nat} (h1 : ∀ k, k < t → Rs k = Rs' k) (h2 : ∀ k, k < t → Sv k = Sv' k) : refsB d a b c Rs Sv t = refsB d a b c Rs' Sv' t := by
  unfold refsB
  apply List.map_congr_left
  intro k hk
  have := List.mem_range.1 hk
  rw [h1 k this, h2 k this]

def GeoT (G : Nat) (a b c : Int) (w : World) : Prop := w.cell? ⟨G, 0, none⟩ = some (.int .i64 a) ∧ w.cell? ⟨G, 1, none⟩ = some (.int .i64 b) ∧ w.cell? ⟨G, 2, none⟩ = some (.int .i64 c)
theorem GeoT.keep {G : Nat} {a b c : Int} {w w' : World} (h : GeoT G a b c w) (hg : w.grownBy w' none) : GeoT G a b c w' := ⟨hg.cell h.1 (by simp), hg.cell h.2.1 (by simp), hg.cell h.2.2 (by simp)⟩
set_option maxRecDepth 100000 in
set_option maxHeartbeats 4000000 in
theorem NewR9 (kd kr D g n : Nat) (a b c k : Int) (A : Nat) (rs : List RW) (w0 w : World) (Ps : List Pr) (h : Grommet.Own w0 w Ps) (hD : RD Ps kd kr D g n rs) (hA : areaV a b c k = (A : Int)) (hn : wordsV a b c ≤ (n : Int)) :
    Calls Tryz.prog 12 #[.pointer (some ⟨D, 0, none⟩), .agg #[.int .i64 a, .int .i64 b, .int .i64 c], .int .i64 k] w fun e w' => ∃ R, e = .returned (.tuple #[.pointer (some ⟨R, 0, none⟩), .int .i64 0]) ∧ Grommet.Own w0 w' (Ps ++ [refP R D a b c k []]) := by
  have HAr := Lib.hid (fun wx => RAreaAt_any a b c k wx)
  rw [hA] at HAr
  have HWd := Lib.hid (fun wx => RWords_any a b c wx)
  obtain ⟨w1, hw1⟩ : ∃ w1, w.alloc (.cells #[.int .i64 a, .int .i64 b, .int .i64 c] 28) = w1 := ⟨_, rfl⟩
  obtain ⟨G, hG⟩ : ∃ G, w.heap.size = G := ⟨_, rfl⟩
  have hg1 : w.grownBy w1 none := by rw [← hw1]; exact World.grownBy_alloc _ _ none
  have hb1 : w1.heap[G]? = some (.cells #[.int .i64 a, .int .i64 b, .int .i64 c] 28 (0, 0)) := by rw [← hw1, ← hG]; exact heap_alloc_new w _
  have hG1 : GeoT G a b c w1 := ⟨by simp [World.cell?, hb1], by simp [World.cell?, hb1], by simp [World.cell?, hb1]⟩
  have hO1 := Lib.hid (h.quiet hg1)
  have HK := Lib.hid (fun wx (hg : w1.grownBy wx none) => And.intro (hG1.keep hg) (hD.dev (h.quiet (grown_trans hg1 hg))))
  have HN := Lib.hid (fun wx (hg : w1.grownBy wx none) => ref_new (h.quiet (grown_trans hg1 hg)) D a b c k)
  obtain ⟨WV, hWV⟩ : ∃ v, wordsV a b c = v := ⟨_, rfl⟩
  rw [hWV] at HWd hn
  have q1 : ¬ (n : Int) < WV := by omega
  have q2 : ¬ (A : Int) < 0 := by omega
  obtain ⟨c0, c1, c2⟩ := hG1
  unfold gv IntIs at HAr HWd
  unfold ptr at HN
  clear h hD hA hg1 hb1 hWV
  go_enter Tryz.func12, Tryz.ntmps12
  go_wp2_with fail
  refine (HAr.out _).mono ?_
  rintro e w2 ⟨rfl, hg2⟩
  have hGr := Lib.hid (grown_trans hg2 (grown_drew (World.grownBy.refl w2 none)))
  have hz := Lib.hid (HK.out _ hGr.out)
  clear HAr hg2 hw1 c0 c1 c2
  go_wp2_with fail
  refine wp_region_held_drew (S := fun w' => GeoT G a b c w' ∧ w'.cell? ⟨D, 0, none⟩ = some (.slice (some ⟨g, 0, none⟩) n n)) (by kernel_rfl) (hz.out) (fun hS => ?_)
  refine wpAnyH_take (i := 0) (oi := { dst := some 12, op := Op.move (Operand.tmp 0), type := 30, pos := "ref.go:58", after := #[], guard := none }) (v := ?vnw12r3o0) rfl (by kernel_rfl) (by kernel_rfl) (by kernel_rfl) (fun _ _ _ h => h) (Or.inl ⟨by rfl, ?hnw12r3o0⟩) hS ?_
  case hnw12r3o0 => (intro wx hx; skip; go_simp; (try with_reducible rfl))
  try simp only [Act.put, List.setIfInBounds_toArray, List.set_cons_zero, List.set_cons_succ]
  refine wpAnyH_take (i := 1) (oi := { dst := some 13, op := Op.nilCheck (Operand.tmp 12), type := 0, pos := "ref.go:58", after := #[{ on := 0, ground := Ground.data }], guard := none }) (v := ?vnw12r3o1) rfl (by kernel_rfl) (by kernel_rfl) (by kernel_rfl) (fun _ _ _ h => h) (Or.inl ⟨by rfl, ?hnw12r3o1⟩) hS ?_
  case hnw12r3o1 => (intro wx hx; skip; go_simp; (try with_reducible rfl))
  try simp only [Act.put, List.setIfInBounds_toArray, List.set_cons_zero, List.set_cons_succ]
  refine wpAnyH_take (i := 2) (oi := { dst := some 14, op := Op.fieldAddr 102 (Operand.tmp 13) 0, type := 0, pos := "ref.go:58", after := #[{ on := 1, ground := Ground.data }], guard := none }) (v := ?vnw12r3o2) rfl (by kernel_rfl) (by kernel_rfl) (by kernel_rfl) (fun _ _ _ h => h) (Or.inl ⟨by rfl, ?hnw12r3o2⟩) hS ?_
  case hnw12r3o2 => (intro wx hx; skip; go_simp; (try with_reducible rfl))
  try simp only [Act.put, List.setIfInBounds_toArray, List.set_cons_zero, List.set_cons_succ]
  refine wpAnyH_take (i := 3) (oi := { dst := some 15, op := Op.load 100 (Operand.tmp 14), type := 100, pos := "ref.go:58", after := #[{ on := 2, ground := Ground.data }], guard := none }) (v := ?vnw12r3o3) rfl (by kernel_rfl) (by kernel_rfl) (by kernel_rfl) (fun _ _ _ h => h) (Or.inl ⟨by rfl, ?hnw12r3o3⟩) hS ?_
  case hnw12r3o3 => (intro wx hx; obtain ⟨⟨y0, y1, y2⟩, y3⟩ := hx; go_simp; (try with_reducible rfl))
  try simp only [Act.put, List.setIfInBounds_toArray, List.set_cons_zero, List.set_cons_succ]
  refine wpAnyH_take (i := 4) (oi := { dst := some 16, op := Op.call { callee := Callee.builtin Builtin.len, args := #[Operand.tmp 15], argTypes := #[100] }, type := 3, pos := "ref.go:58", after := #[{ on := 3, ground := Ground.data }], guard := none }) (v := ?vnw12r3o4) rfl (by kernel_rfl) (by kernel_rfl) (by kernel_rfl) (fun _ _ _ h => h) (Or.inl ⟨by rfl, ?hnw12r3o4⟩) hS ?_
  case hnw12r3o4 => (intro wx hx; skip; go_simp; (try with_reducible rfl))
  try simp only [Act.put, List.setIfInBounds_toArray, List.set_cons_zero, List.set_cons_succ]
  refine wpAnyH_take (i := 5) (oi := { dst := some 17, op := Op.load 28 (Operand.tmp 4), type := 28, pos := "ref.go:58", after := #[], guard := none }) (v := ?vnw12r3o5) rfl (by kernel_rfl) (by kernel_rfl) (by kernel_rfl) (fun _ _ _ h => h) (Or.inl ⟨by rfl, ?hnw12r3o5⟩) hS ?_
  case hnw12r3o5 => (intro wx hx; obtain ⟨⟨y0, y1, y2⟩, y3⟩ := hx; go_simp; (try with_reducible rfl))
  try simp only [Act.put, List.setIfInBounds_toArray, List.set_cons_zero, List.set_cons_succ]
  refine wpAnyH_ready (rs := [6]) (by kernel_rfl) (by simp) ?_
  refine AllReadyH.cons (o := { dst := some 18, op := Op.call { callee := Callee.value (Operand.func 49), args := #[Operand.tmp 17], argTypes := #[28] }, type := 3, pos := "ref.go:58", after := #[{ on := 5, ground := Ground.data }], guard := none }) rfl (fun K hK => ?_) AllReadyH.nil
  go_simp
  refine (HWd.out _).mono ?_
  rintro e v1 ⟨rfl, hg3⟩
  have hGn := Lib.hid (grown_trans hGr.out hg3)
  clear hGr hg3
  have hGr := hGn
  clear hGn
  refine hK.out _ _ ?hsnw12r3o6 (fun hS => ?_)
  case hsnw12r3o6 => (exact HK.out _ hGr.out)
  clear hK K
  try simp only [Act.put, List.setIfInBounds_toArray, List.set_cons_zero, List.set_cons_succ]
  refine wpAnyH_take (i := 7) (oi := { dst := some 19, op := Op.binOp BinOp.lss 3 (Operand.tmp 16) (Operand.tmp 18) 3, type := 4, pos := "ref.go:58", after := #[{ on := 4, ground := Ground.data }, { on := 6, ground := Ground.data }], guard := none }) (v := ?vnw12r3o7) rfl (by kernel_rfl) (by kernel_rfl) (by kernel_rfl) (fun _ _ _ h => h) (Or.inl ⟨by rfl, ?hnw12r3o7⟩) hS ?_
  case hnw12r3o7 => (intro wx hx; skip; go_simp; (try with_reducible rfl))
  try simp only [Act.put, List.setIfInBounds_toArray, List.set_cons_zero, List.set_cons_succ]
  refine wpAnyH_done (by kernel_rfl) ?_ _
  obtain ⟨⟨c0, c1, c2⟩, _⟩ := hS
  have hfin := Lib.hid (HN.out _ hGr.out)
  clear HK HN HWd hz hGr
  go_wp2
  go_ret2
  exact ⟨_, rfl, hfin.out⟩
end Go.Proofs.YtpdofdloclmbdaaGreat
end
section
/- CommitPlays: the steps of both are the same, and may all be done. -/
namespace Go.Proofs.YtpdofdloclmbdaaGreat
open Go.RowKit Go.Grommet
set_option linter.unusedVariables false

theorem mark_top {M T p A v : Nat} (hA : A / 8 < M) (hT : M ≤ T) : markS T p A v = markS M p A v := by
  unfold markS
  rw [settle_top (fun x hx => by rw [List.mem_singleton.1 hx]; exact hA) hT]
theorem apply_top {M T A : Nat} {W : List (Int × Nat)} (hA : A / 8 < M) (hT : M ≤ T) (hW : ∀ x ∈ W, x.1.toNat / 8 < M) : applyS T A W = applyS M A W := by
  unfold applyS
  rw [mark_top hA hT, settle_top (fun x hx => ?_) hT]
  obtain ⟨q, hq, rfl⟩ := List.mem_map.1 hx
  unfold wrQ at hq
  obtain ⟨p, hp, rfl⟩ := List.mem_map.1 hq
  exact hW p hp
theorem begin_top {M T A : Nat} {W : List (Int × Nat)} (hA : (A + 8 + (2 + 2 * W.length)) / 8 < M) (hT : M ≤ T) (hW : ∀ x ∈ W, x.1.toNat / 8 < M) : beginS T A W = beginS M A W := by
  unfold beginS sealS
  rw [mark_top (by omega) hT, apply_top (by omega) hT hW, settle_top (fun x hx => ?_) hT]
  obtain ⟨q, hq, rfl⟩ := List.mem_map.1 hx
  unfold sealQ at hq
  obtain ⟨i, hi, rfl⟩ := List.mem_map.1 hq
  have := List.mem_range.1 hi
  rw [recR_length] at this
  show (A + 8 + i) / 8 < M
  omega
theorem go_top {M T A : Nat} {a b c : Int} {xs : List Nat} (hA : A / 8 < M) (hT : M ≤ T) (hW : commB a b c xs A = true → ∀ x ∈ commM xs A, x.1.toNat / 8 < M) : goS T A a b c xs = goS M A a b c xs := by
  unfold goS resS
  split
  · rfl
  · split
    · rename_i h; rw [apply_top hA hT (hW h)]
    · rw [mark_top hA hT]
/-- A run's steps may be done; their phases are few. -/
def OkS (N : Nat) (S : List (Nat × Cl)) : Prop := ∀ s ∈ S, s.2.ok N ∧ s.1 ≤ 6
theorem OkS.nil (N : Nat) : OkS N [] := by intro s hs; cases hs
theorem OkS.tail {N : Nat} {s : Nat × Cl} {S : List (Nat × Cl)} (h : OkS N (s :: S)) : OkS N S := fun x hx => h x (List.mem_cons_of_mem _ hx)
theorem OkS.append {N : Nat} {S T : List (Nat × Cl)} (h1 : OkS N S) (h2 : OkS N T) : OkS N (S ++ T) := by
  intro s hs
  rcases List.mem_append.1 hs with h | h
  · exact h1 s h
  · exact h2 s h
theorem OkS.stores (p N : Nat) (Q : List (Nat × Nat)) (hp : p ≤ 6) (h : ∀ q ∈ Q, q.1 < N ∧ q.2 < 18446744073709551616) : OkS N (storesS p Q) := by
  intro s hs
  refine ⟨ok_stores p N Q h s hs, ?_⟩
  unfold storesS at hs
  obtain ⟨q, _, rfl⟩ := List.mem_map.1 hs
  exact hp
theorem OkS.settle (M p N : Nat) (ps : List Nat) (hp : p ≤ 6) (h : M = N / 8) : OkS N (settleS M p ps) := by
  intro s hs
  refine ⟨ok_settle M p N ps h s hs, ?_⟩
  unfold settleS flushS at hs
  rcases List.mem_append.1 hs with hs | hs
  · obtain ⟨q, _, rfl⟩ := List.mem_map.1 hs; exact hp
  · rw [List.mem_singleton.1 hs]; exact hp
theorem OkS.mark (M p A v N : Nat) (hp : p ≤ 6) (h : M = N / 8) (hA : A < N) (hv : v < 18446744073709551616) : OkS N (markS M p A v) := by
  unfold markS
  exact OkS.append (S := [(p, Cl.store A v)]) (fun s hs => by rw [List.mem_singleton.1 hs]; exact ⟨⟨hA, hv⟩, hp⟩) (OkS.settle M p N _ hp h)
theorem OkS.apply (M A N : Nat) (W : List (Int × Nat)) (h : M = N / 8) (hA : A < N) (hW : ∀ p ∈ W, p.1.toNat < N ∧ p.2 < 18446744073709551616) : OkS N (applyS M A W) := by
  unfold applyS
  refine OkS.append (OkS.append (OkS.stores 4 N _ (by decide) (fun q hq => ?_)) (OkS.settle M 5 N _ (by decide) h)) (OkS.mark M 6 A 0 N (by decide) h hA (by decide))
  unfold wrQ at hq
  obtain ⟨p, hp, rfl⟩ := List.mem_map.1 hq
  exact hW p hp
theorem OkS.begin_ (M A N : Nat) (W : List (Int × Nat)) (h : M = N / 8) (hA : A + 8 + (recR W).length ≤ N) (hR : ∀ x ∈ recR W, x < 18446744073709551616) (hW : ∀ p ∈ W, p.1.toNat < N ∧ p.2 < 18446744073709551616) : OkS N (beginS M A W) := by
  unfold beginS sealS
  refine OkS.append (OkS.append (OkS.append (OkS.stores 1 N _ (by decide) (fun q hq => ?_)) (OkS.settle M 2 N _ (by decide) h)) (OkS.mark M 3 A _ N (by decide) h (by omega) (markV_lt _))) (OkS.apply M A N W h (by omega) hW)
  unfold sealQ at hq
  obtain ⟨i, hi, rfl⟩ := List.mem_map.1 hq
  have hi := List.mem_range.1 hi
  refine ⟨by show A + 8 + i < N; omega, ?_⟩
  show (recR W).getD i 0 < _
  rw [List.getD_eq_getElem?_getD, List.getElem?_eq_getElem hi]
  exact hR _ (by simp)
theorem OkS.go (M A N : Nat) (a b c : Int) (xs : List Nat) (h : M = N / 8) (hA : A < N) (hW : commB a b c xs A = true → ∀ p ∈ commM xs A, p.1.toNat < N ∧ p.2 < 18446744073709551616) : OkS N (goS M A a b c xs) := by
  unfold goS resS
  split
  · exact OkS.nil N
  · split
    · rename_i h2; exact OkS.apply M A N _ h hA (hW h2)
    · exact OkS.mark M 6 A 0 N (by decide) h hA (by decide)
/-- A step turns both devices alike. -/
theorem Rel.does {N : Nat} {ws : List PW} {rs : List RW} (h : Rel ws rs) (hN : rs.length = N) (cl : Cl) : Rel (cl.does ws) (cl.doesR N rs) := by
  cases cl with
  | store a v => exact h.modify (fun c r h => h.store v) a
  | flush l => exact h.turn (fun c r h => h.flush) (8 * l) 8
  | fence => exact h.map (fun c r h => h.fence) N (by omega)
theorem doesR_len (N : Nat) (cl : Cl) (rs : List RW) : (cl.doesR N rs).length = rs.length := by
  cases cl with
  | store a v => exact List.length_modify _ _ _
  | flush l => exact rturn_len _ _ _ _
  | fence => exact rturn_len _ _ _ _
theorem doesR_any {N : Nat} {rs : List RW} (h : AnyR N rs) {cl : Cl} (hok : cl.ok N) : AnyR N (cl.doesR N rs) := by
  cases cl with
  | store a v => exact h.store a v hok.2
  | flush l => exact ⟨by rw [doesR_len]; exact h.1, rturn_small (fun c hc => rflush_small hc) _ _ h.2 _⟩
  | fence => exact ⟨by rw [doesR_len]; exact h.1, rturn_small (fun c hc => rfence_small hc) _ _ h.2 _⟩
end Go.Proofs.YtpdofdloclmbdaaGreat
end
section
/- CommitPlays: the law's things, and its calls over them. -/
namespace Go.Proofs.YtpdofdloclmbdaaGreat
open Go.RowKit Go.Grommet
set_option linter.unusedVariables false

structure Qc where
  a : Nat
  b : Nat
  c : Nat
  N : Nat
  M : Nat
  X9 : Nat
  X10 : Nat
  d : Nat
  r : Nat
  g : Nat
  bq : Nat
  cb : Nat
  Rq : Nat → Nat
structure Qs where
  ws : List PW
  rs : List RW
  Rs : Nat → Nat
  qa : Nat
  ca : Nat
  Sp : Nat → List (Nat × Cl)
  Sq : Nat → List (Nat × Cl)
def Qc.geo (K : Qc) : Array Value := #[.int .i64 (K.a : Int), .int .i64 (K.b : Int), .int .i64 (K.c : Int)]
def Qc.P (K : Qc) (s : Qs) (T : List Pr) : List Pr :=
  boxP K.X9 26 K.geo :: boxP K.X10 28 K.geo :: devP K.d s.ws :: rowR K.g K.N s.rs :: boxR K.r K.g K.N :: rowP 39 1 (.slice (some ⟨K.bq, 0, none⟩) K.a K.cb) K.a (ptrsL K.Rq K.a) :: rowP 48 1 (.slice (some ⟨s.qa, 0, none⟩) K.a s.ca) K.a (ptrsL s.Rs K.a) :: (runsB K.d K.a K.b K.c s.Rs s.Sp K.a ++ (refsB K.r K.a K.b K.c K.Rq s.Sq K.a ++ T))
variable {K : Qc} {s : Qs} {T : List Pr} {w0 w : World}
theorem q_more (K : Qc) (s : Qs) (T U : List Pr) : K.P s (T ++ U) = K.P s T ++ U := by unfold Qc.P; simp
theorem q_run {k : Nat} (hk : k < K.a) : (K.P s T)[7 + k]? = some (runE (s.Rs k) K.d (K.a : Int) (K.b : Int) (K.c : Int) (264 + 208 * k) (s.Sp k)) := by
  unfold Qc.P
  rw [Nat.add_comm]
  simp only [List.getElem?_cons_succ]
  rw [List.getElem?_append_left (by rw [runsB_len]; exact hk), runsB_get _ _ _ _ _ _ hk]
theorem q_ref {k : Nat} (hk : k < K.a) : (K.P s T)[7 + K.a + k]? = some (refP (K.Rq k) K.r (K.a : Int) (K.b : Int) (K.c : Int) (k : Int) (s.Sq k)) := by
  unfold Qc.P
  rw [Nat.add_assoc, Nat.add_comm]
  simp only [List.getElem?_cons_succ]
  rw [List.getElem?_append_right (by rw [runsB_len]; omega), runsB_len, Nat.add_sub_cancel_left, List.getElem?_append_left (by rw [refsB_len]; exact hk), refsB_get _ _ _ _ _ _ hk]
theorem q_setP (k : Nat) (hk : k < K.a) (S : List (Nat × Cl)) : (K.P s T).set (7 + k) (runE (s.Rs k) K.d (K.a : Int) (K.b : Int) (K.c : Int) (264 + 208 * k) S) = K.P { s with Sp := fun j => if j = k then S else s.Sp j } T := by
  unfold Qc.P
  rw [Nat.add_comm]
  simp only [List.set_cons_succ]
  rw [List.set_append_left _ _ (by rw [runsB_len]; exact hk), runsB_set]
theorem q_setQ (k : Nat) (hk : k < K.a) (S : List (Nat × Cl)) : (K.P s T).set (7 + K.a + k) (refP (K.Rq k) K.r (K.a : Int) (K.b : Int) (K.c : Int) (k : Int) S) = K.P { s with Sq := fun j => if j = k then S else s.Sq j } T := by
  unfold Qc.P
  rw [Nat.add_assoc, Nat.add_comm]
  simp only [List.set_cons_succ]
  rw [List.set_append_right _ _ (by rw [runsB_len]; omega), runsB_len, Nat.add_sub_cancel_left, List.set_append_left _ _ (by rw [refsB_len]; exact hk), refsB_set]
theorem q_rd (h : AnyR K.N s.rs) (hN : K.N ≤ 65536) : RD (K.P s T) 4 3 K.r K.g K.N s.rs := ⟨rfl, rfl, by decide, h.1, h.2, hN⟩
/-- What holds at the law's loop. -/
structure LwQ (K : Qc) (s : Qs) (T : List Pr) (w0 w : World) : Prop where
  may : mayB (K.a : Int) (K.b : Int) (K.c : Int) = true
  ha : 1 ≤ K.a ∧ K.a ≤ 4
  hbc : K.b ≤ 9 ∧ K.c ≤ 21
  hN : 280 + 208 * K.a + 16 * K.b + 8 * K.c = K.N
  hM : K.N = 8 * K.M
  wl : s.ws.length = K.N
  any : AnyR K.N s.rs
  rel : Rel s.ws s.rs
  eq : ∀ k, k < K.a → s.Sq k = s.Sp k
  ok : ∀ k, k < K.a → OkS K.N (s.Sp k)
  own : Grommet.Own w0 w (K.P s T)
theorem LwQ.few (h : LwQ K s T w0 w) : K.N ≤ 2000 ∧ 264 + 208 * K.a + 16 ≤ K.N := by
  have := h.ha; have := h.hbc; have := h.hN; omega
theorem LwQ.small (h : LwQ K s T w0 w) : ∀ v ∈ s.ws.map (·.seen), v < 18446744073709551616 := by
  rw [h.rel.same (p := (·.seen)) (q := (·.seen)) (fun c r h => h.seen)]
  intro v hv
  obtain ⟨r, hr, rfl⟩ := List.mem_map.1 hv
  exact (h.any.2 r hr).2.1
theorem LwQ.smallS (h : LwQ K s T w0 w) : ∀ v ∈ s.ws.map (·.sure), v < 18446744073709551616 := by
  rw [h.rel.same (p := (·.sure)) (q := (·.sure)) (fun c r h => h.sure)]
  intro v hv
  obtain ⟨r, hr, rfl⟩ := List.mem_map.1 hv
  exact (h.any.2 r hr).1
theorem LwQ.area (h : LwQ K s T w0 w) {k : Nat} (hk : k < K.a) : areaV (K.a : Int) (K.b : Int) (K.c : Int) (k : Int) = ((264 + 208 * k : Nat) : Int) := by
  unfold areaV
  rw [if_pos ⟨h.may, by omega, by omega⟩]
  omega
theorem LwQ.move (h : LwQ K s T w0 w) {T' : List Pr} {w' : World} (hO : Grommet.Own w0 w' (K.P s T')) : LwQ K s T' w0 w' := { h with own := hO }
/-- What stays the same of a state. -/
def Keep (s s' : Qs) : Prop := s'.Rs = s.Rs ∧ s'.qa = s.qa ∧ s'.ca = s.ca
theorem upd_eq {f g : Nat → List (Nat × Cl)} {n k : Nat} (h : ∀ j, j < n → f j = g j) (S : List (Nat × Cl)) : ∀ j, j < n → (if j = k then S else f j) = (if j = k then S else g j) := by
  intro j hj
  by_cases e : j = k
  · rw [if_pos e, if_pos e]
  · rw [if_neg e, if_neg e]; exact h j hj
theorem upd_ok {f : Nat → List (Nat × Cl)} {n N k : Nat} (h : ∀ j, j < n → OkS N (f j)) {S : List (Nat × Cl)} (hS : OkS N S) : ∀ j, j < n → OkS N (if j = k then S else f j) := by
  intro j hj
  by_cases e : j = k
  · rw [if_pos e]; exact hS
  · rw [if_neg e]; exact h j hj
theorem q_step (h : LwQ K s T w0 w) {k : Nat} (hk : k < K.a) : ∃ (p : Nat) (en : Int), p ≤ 6 ∧ (en = 0 ∨ en = 3) ∧ ∃ s1 s2, Keep s s1 ∧ Keep s s2 ∧
    (Calls Tryz.prog 23 #[ptr (s.Rs k)] w fun e w' => e = .returned (.tuple #[.int .u8 (p : Int), .int .i64 en]) ∧ Grommet.Own w0 w' (K.P s1 T)) ∧
    ∀ wx, Grommet.Own w0 wx (K.P s1 T) → Calls Tryz.prog 24 #[.pointer (some ⟨K.Rq k, 0, none⟩)] wx fun e w' => e = .returned (.tuple #[.int .i64 (p : Int), .int .i64 en]) ∧ LwQ K s2 T w0 w' := by
  have hr := q_run (K := K) (s := s) (T := T) hk
  obtain ⟨f1, f2⟩ := h.few
  have hMN := h.hM
  cases hS : s.Sp k with
  | nil =>
    rw [hS] at hr
    refine ⟨0, 3, by decide, .inr rfl, s, s, ⟨rfl, rfl, rfl⟩, ⟨rfl, rfl, rfl⟩, ?_, fun wx hO => ?_⟩
    · refine (StepVE _ _ _ _ _ _ _ w0 w _ h.own hr).mono ?_
      rintro e w' ⟨rfl, rfl⟩
      exact ⟨rfl, h.own⟩
    · have hq := q_ref (K := K) (s := s) (T := T) hk
      rw [h.eq k hk, hS] at hq
      refine (StepRE _ _ _ _ _ _ _ w0 wx _ hO hq).mono ?_
      rintro e w' ⟨rfl, rfl⟩
      exact ⟨rfl, h.move hO⟩
  | cons st S =>
    obtain ⟨p, cl⟩ := st
    rw [hS] at hr
    have hok := h.ok k hk
    rw [hS] at hok
    have hcl : cl.ok K.N ∧ p ≤ 6 := hok (p, cl) (List.mem_cons_self ..)
    refine ⟨p, 0, hcl.2, .inl rfl, { s with Sp := fun j => if j = k then S else s.Sp j, ws := cl.does s.ws }, { s with Sp := fun j => if j = k then S else s.Sp j, ws := cl.does s.ws, Sq := fun j => if j = k then S else s.Sq j, rs := cl.doesR K.N s.rs }, ⟨rfl, rfl, rfl⟩, ⟨rfl, rfl, rfl⟩, ?_, fun wx hO => ?_⟩
    · refine (StepV (7 + k) 2 _ _ _ _ _ _ p cl S s.ws K.M w0 w _ h.own hr rfl (by omega) (by rw [h.wl, hMN]) (by rw [h.wl]; exact hcl.1)).mono ?_
      rintro e w' ⟨rfl, hO'⟩
      rw [q_setP k hk] at hO'
      exact ⟨rfl, hO'⟩
    · have hq := q_ref (K := K) (s := { s with Sp := fun j => if j = k then S else s.Sp j, ws := cl.does s.ws }) (T := T) hk
      have he : s.Sq k = (p, cl) :: S := by rw [h.eq k hk, hS]
      rw [show ({ s with Sp := fun j => if j = k then S else s.Sp j, ws := cl.does s.ws } : Qs).Sq k = (p, cl) :: S from he] at hq
      refine (StepRH _ _ _ _ _ _ (7 + K.a + k) 4 3 K.g K.N p cl S s.rs w0 wx _ hO hq (q_rd (s := { s with Sp := fun j => if j = k then S else s.Sp j, ws := cl.does s.ws }) h.any (by omega)) (by omega) (by omega) hcl.1 (by omega)).mono ?_
      rintro e w' ⟨rfl, hO'⟩
      rw [q_setQ k hk] at hO'
      refine ⟨rfl, ?_⟩
      exact { may := h.may, ha := h.ha, hbc := h.hbc, hN := h.hN, hM := h.hM, wl := by rw [Cl.does_len]; exact h.wl, any := doesR_any h.any hcl.1, rel := Rel.does h.rel h.any.1 cl, eq := upd_eq h.eq S, ok := upd_ok h.ok hok.tail, own := hO' }
end Go.Proofs.YtpdofdloclmbdaaGreat
end
section
/- CommitPlays: Begin, Resume, Store, Evict, Crash of both. -/
namespace Go.Proofs.YtpdofdloclmbdaaGreat
open Go.RowKit Go.Grommet
set_option linter.unusedVariables false
variable {K : Qc} {s : Qs} {T : List Pr} {w0 w : World}

theorem may_in {a b c : Int} {W : List (Int × Nat)} (h : mayW a b c W = true) : W.length ≤ 96 ∧ ∀ x ∈ W, 0 ≤ x.1 ∧ x.1 < 280 + 208 * a + 16 * b + 8 * c := by
  unfold mayW at h
  obtain ⟨h1, h2, h3⟩ := of_decide_eq_true h
  refine ⟨h1, fun x hx => ?_⟩
  obtain ⟨i, hi⟩ := List.getElem?_of_mem hx
  have hil := (List.getElem?_eq_some_iff.1 hi).1
  have := (h3 i hil).1
  rw [List.getD_eq_getElem?_getD, hi] at this
  exact (stand_in h2 this).1

theorem q_begin (h : LwQ K s T w0 w) {k : Nat} (hk : k < K.a) {bd : Option Addr} {n bc : Nat} {W : List (Int × Nat)} (hat : At w0 bd (icells W)) (hn : W.length = n) (hn2 : n ≤ 1000) (hwf : ∀ p ∈ W, (Lit.int .i64 p.1).wf = true) (hv : ∀ p ∈ W, p.2 < 18446744073709551616) : ∃ (en : Int) (s1 s2 : Qs), Keep s s1 ∧ Keep s s2 ∧
    (∀ wx ad cap, Grommet.Own w0 wx (K.P s (T ++ [rowP 92 2 (.slice ad n cap) n (icells W)])) → Calls Tryz.prog 13 #[ptr (s.Rs k), .slice ad n cap] wx fun e w' => e = .returned (.int .i64 en) ∧ Grommet.Own w0 w' (K.P s1 T)) ∧
    ∀ wx, Grommet.Own w0 wx (K.P s1 T) → Calls Tryz.prog 14 #[.pointer (some ⟨K.Rq k, 0, none⟩), .slice bd n bc] wx fun e w' => e = .returned (.int .i64 en) ∧ LwQ K s2 T w0 w' := by
  obtain ⟨f1, f2⟩ := h.few
  have hMN := h.hM
  have ha := h.ha
  have hq : ∀ s' : Qs, s'.Sq = s.Sq → (K.P s' T)[7 + K.a + k]? = some (refP (K.Rq k) K.r (K.a : Int) (K.b : Int) (K.c : Int) (k : Int) (s.Sp k)) := fun s' e => by
    have := q_ref (K := K) (s := s') (T := T) hk
    rwa [e, h.eq k hk] at this
  have hr : ∀ (T' : List Pr), (K.P s T')[7 + k]? = some (runE (s.Rs k) K.d (K.a : Int) (K.b : Int) (K.c : Int) (264 + 208 * k) (s.Sp k)) := fun T' => q_run hk
  by_cases hS : s.Sp k = []
  · rw [hS] at hr hq
    have hl2 : ∀ (wx : World) (ad : Option Addr) (cap : Nat), Grommet.Own w0 wx (K.P s (T ++ [rowP 92 2 (.slice ad n cap) n (icells W)])) → (K.P s (T ++ [rowP 92 2 (.slice ad n cap) n (icells W)]))[(K.P s T).length]? = some (rowP 92 2 (.slice ad n cap) n (icells W)) := by
      intro wx ad cap hO
      rw [q_more]; exact last_get
    by_cases hmay : mayW (K.a : Int) (K.b : Int) (K.c : Int) W = true
    · obtain ⟨hl, hin⟩ := may_in hmay
      have hin2 : ∀ x ∈ W, 0 ≤ x.1 ∧ x.1.toNat < K.N ∧ x.1 < 1000000 := fun x hx => by
        have := hin x hx; have := h.hN; omega
      have hA : (264 + 208 * k + 8 + (2 + 2 * n)) / 8 < K.M := by omega
      have hsmR := recR_small (M := W) (fun p hp => ⟨by have := hin2 p hp; omega, hv p hp⟩) hl
      have htop : beginS 8192 (264 + 208 * k) W = beginS K.M (264 + 208 * k) W := begin_top (by rw [hn]; exact hA) (by omega) (fun x hx => by have := hin2 x hx; omega)
      have hok : OkS K.N (beginS K.M (264 + 208 * k) W) := OkS.begin_ K.M (264 + 208 * k) K.N W (by omega) (by rw [recR_length]; omega) hsmR (fun p hp => ⟨(hin2 p hp).2.1, hv p hp⟩)
      refine ⟨0, { s with Sp := fun j => if j = k then beginS K.M (264 + 208 * k) W else s.Sp j }, { s with Sp := fun j => if j = k then beginS K.M (264 + 208 * k) W else s.Sp j, Sq := fun j => if j = k then beginS K.M (264 + 208 * k) W else s.Sq j }, ⟨rfl, rfl, rfl⟩, ⟨rfl, rfl, rfl⟩, fun wx ad cap hO => ?_, fun wx hO => ?_⟩
      · refine (BeginV (7 + k) (K.P s T).length _ _ _ _ _ _ ad n cap W K.M w0 wx _ hO (hr _) (hl2 wx ad cap hO) (by
          have := (List.getElem?_eq_some_iff.1 (hr T)).1; omega) hn hmay hv (fun x hx => by have := hin2 x hx; omega) (by omega) (by omega) (by omega)).mono ?_
        rintro e w' ⟨rfl, hO'⟩
        rw [q_setP k hk, q_more] at hO'
        exact ⟨rfl, hO'.less⟩
      · refine (BeginR _ _ _ _ _ _ (264 + 208 * k) (7 + K.a + k) bd n bc W w0 wx _ hO (hq _ rfl) (h.area hk) (by omega) hat hn hmay hv (fun x hx => by have := hin2 x hx; omega)).mono ?_
        rintro e w' ⟨rfl, hO'⟩
        rw [htop, q_setQ k hk] at hO'
        refine ⟨rfl, ?_⟩
        exact { may := h.may, ha := h.ha, hbc := h.hbc, hN := h.hN, hM := h.hM, wl := h.wl, any := h.any, rel := h.rel, eq := upd_eq h.eq _, ok := upd_ok h.ok hok, own := hO' }
    · have hmay : mayW (K.a : Int) (K.b : Int) (K.c : Int) W = false := by simpa using hmay
      refine ⟨1, s, s, ⟨rfl, rfl, rfl⟩, ⟨rfl, rfl, rfl⟩, fun wx ad cap hO => ?_, fun wx hO => ?_⟩
      · obtain ⟨hat2, _, _, _⟩ := Own.pairs hO _ (hl2 wx ad cap hO)
        refine (BeginVA (7 + k) _ _ _ _ _ _ ad n cap W w0 wx _ hO (hr _) hat2 hn hwf hmay).mono ?_
        rintro e w' ⟨rfl, hg⟩
        rw [q_more] at hO
        exact ⟨rfl, (hO.quiet hg).less⟩
      · refine (BeginRA _ _ _ _ _ _ (7 + K.a + k) bd n bc W w0 wx _ hO (hq _ rfl) (hat.grown hO.grown (by simp)) hn hmay).mono ?_
        rintro e w' ⟨rfl, hg⟩
        exact ⟨rfl, h.move (hO.quiet hg)⟩
  · have hS0 : 0 < (s.Sp k).length := List.length_pos_iff.2 hS
    refine ⟨3, s, s, ⟨rfl, rfl, rfl⟩, ⟨rfl, rfl, rfl⟩, fun wx ad cap hO => ?_, fun wx hO => ?_⟩
    · refine (BeginVS (7 + k) _ _ _ _ _ _ _ hS0 ad n cap w0 wx _ hO (hr _)).mono ?_
      rintro e w' ⟨rfl, rfl⟩
      rw [q_more] at hO
      exact ⟨rfl, hO.less⟩
    · refine (BeginRS _ _ _ _ _ _ (7 + K.a + k) _ hS0 bd n bc w0 wx _ hO (hq _ rfl)).mono ?_
      rintro e w' ⟨rfl, rfl⟩
      exact ⟨rfl, h.move hO⟩

theorem q_resume (h : LwQ K s T w0 w) {k : Nat} (hk : k < K.a) : ∃ (q : Bool) (en : Int) (s1 s2 : Qs), Keep s s1 ∧ Keep s s2 ∧
    (Calls Tryz.prog 15 #[ptr (s.Rs k)] w fun e w' => e = .returned (.tuple #[.bool q, .int .i64 en]) ∧ Grommet.Own w0 w' (K.P s1 T)) ∧
    ∀ wx, Grommet.Own w0 wx (K.P s1 T) → Calls Tryz.prog 16 #[.pointer (some ⟨K.Rq k, 0, none⟩)] wx fun e w' => e = .returned (.tuple #[.bool q, .int .i64 en]) ∧ LwQ K s2 T w0 w' := by
  obtain ⟨f1, f2⟩ := h.few
  have hMN := h.hM
  have ha := h.ha
  have hNN := h.hN
  have hq : ∀ s' : Qs, s'.Sq = s.Sq → (K.P s' T)[7 + K.a + k]? = some (refP (K.Rq k) K.r (K.a : Int) (K.b : Int) (K.c : Int) (k : Int) (s.Sp k)) := fun s' e => by
    have := q_ref (K := K) (s := s') (T := T) hk
    rwa [e, h.eq k hk] at this
  have hr := q_run (K := K) (s := s) (T := T) hk
  by_cases hS : s.Sp k = []
  · rw [hS] at hr hq
    obtain ⟨xs, hxs⟩ : ∃ xs, s.ws.map (·.seen) = xs := ⟨_, rfl⟩
    have hxr : s.rs.map (·.seen) = xs := by rw [← hxs]; exact (h.rel.same (p := (·.seen)) (q := (·.seen)) (fun c r h => h.seen)).symm
    have hxsm : ∀ v ∈ xs, v < 18446744073709551616 := by rw [← hxs]; exact h.small
    have hcm : commB (K.a : Int) (K.b : Int) (K.c : Int) xs (264 + 208 * k) = true → ∀ p ∈ commM xs (264 + 208 * k), p.1.toNat < K.N ∧ p.2 < 18446744073709551616 := fun hB p hp => ⟨by
      have := (comm_ok h.may hB p hp).1; omega, comm_small _ hxsm p hp⟩
    have htop : goS 8192 (264 + 208 * k) (K.a : Int) (K.b : Int) (K.c : Int) xs = goS K.M (264 + 208 * k) (K.a : Int) (K.b : Int) (K.c : Int) xs := go_top (by omega) (by omega) (fun hB x hx => by have := (hcm hB x hx).1; omega)
    have hok : OkS K.N (goS K.M (264 + 208 * k) (K.a : Int) (K.b : Int) (K.c : Int) xs) := OkS.go K.M (264 + 208 * k) K.N _ _ _ xs (by omega) (by omega) hcm
    refine ⟨!decide (xs.getD (264 + 208 * k) 0 = 0), 0, { s with Sp := fun j => if j = k then goS K.M (264 + 208 * k) (K.a : Int) (K.b : Int) (K.c : Int) xs else s.Sp j }, { s with Sp := fun j => if j = k then goS K.M (264 + 208 * k) (K.a : Int) (K.b : Int) (K.c : Int) xs else s.Sp j, Sq := fun j => if j = k then goS K.M (264 + 208 * k) (K.a : Int) (K.b : Int) (K.c : Int) xs else s.Sq j }, ⟨rfl, rfl, rfl⟩, ⟨rfl, rfl, rfl⟩, ?_, fun wx hO => ?_⟩
    · refine (ResumeVB (7 + k) 2 _ _ K.a K.b K.c (264 + 208 * k) s.ws K.M K.M w0 w _ h.own hr rfl (by omega) (by rw [h.wl, hMN]) (by rw [h.wl]; omega) h.small (by rw [h.wl]; omega) h.may (by omega) (by omega) (by omega)).mono ?_
      rintro e w' ⟨rfl, hO'⟩
      rw [hxs, q_setP k hk] at hO'
      rw [hxs]
      exact ⟨rfl, hO'⟩
    · refine (ResumeR _ _ _ _ _ _ (264 + 208 * k) (7 + K.a + k) 4 3 K.g K.N s.rs xs w0 wx _ hO (hq _ rfl) (q_rd (s := { s with Sp := _ }) h.any (by omega)) hxr (h.area hk) (by omega) h.may (by omega)).mono ?_
      rintro e w' ⟨rfl, hO'⟩
      rw [htop, q_setQ k hk] at hO'
      refine ⟨rfl, ?_⟩
      exact { may := h.may, ha := h.ha, hbc := h.hbc, hN := h.hN, hM := h.hM, wl := h.wl, any := h.any, rel := h.rel, eq := upd_eq h.eq _, ok := upd_ok h.ok hok, own := hO' }
  · have hS0 : 0 < (s.Sp k).length := List.length_pos_iff.2 hS
    refine ⟨false, 3, s, s, ⟨rfl, rfl, rfl⟩, ⟨rfl, rfl, rfl⟩, ?_, fun wx hO => ?_⟩
    · refine (ResumeVS (7 + k) _ _ _ _ _ _ _ hS0 w0 w _ h.own hr).mono ?_
      rintro e w' ⟨rfl, rfl⟩
      exact ⟨rfl, h.own⟩
    · refine (ResumeRS _ _ _ _ _ _ (7 + K.a + k) _ hS0 w0 wx _ hO (hq _ rfl)).mono ?_
      rintro e w' ⟨rfl, rfl⟩
      exact ⟨rfl, h.move hO⟩

theorem q_store (h : LwQ K s T w0 w) (x : Int) (v : Nat) (hv : v < 18446744073709551616) : ∃ (en : Int) (s1 s2 : Qs), Keep s s1 ∧ Keep s s2 ∧
    (∀ wx, Grommet.Own w0 wx (K.P s T) → Calls Tryz.prog 17 #[ptr K.d, .int .i64 x, .int .u64 (v : Int)] wx fun e w' => e = .returned (.int .i64 en) ∧ Grommet.Own w0 w' (K.P s1 T)) ∧
    ∀ wx, Grommet.Own w0 wx (K.P s1 T) → Calls Tryz.prog 18 #[ptr K.r, .int .i64 x, .int .u64 (v : Int)] wx fun e w' => e = .returned (.int .i64 en) ∧ LwQ K s2 T w0 w' := by
  obtain ⟨f1, f2⟩ := h.few
  by_cases hx : 0 ≤ x ∧ x < (K.N : Int)
  · obtain ⟨i, rfl⟩ := Int.eq_ofNat_of_zero_le hx.1
    have hi : i < K.N := by omega
    obtain ⟨c, hc⟩ : ∃ c, s.ws[i]? = some c := ⟨s.ws[i]'(by rw [h.wl]; exact hi), List.getElem?_eq_getElem _⟩
    obtain ⟨r, hr⟩ : ∃ r, s.rs[i]? = some r := ⟨s.rs[i]'(by rw [h.any.1]; exact hi), List.getElem?_eq_getElem _⟩
    refine ⟨0, { s with ws := s.ws.modify i (·.store v) }, { s with ws := s.ws.modify i (·.store v), rs := s.rs.modify i (RW.store v) }, ⟨rfl, rfl, rfl⟩, ⟨rfl, rfl, rfl⟩, fun wx hO => ?_, fun wx hO => ?_⟩
    · exact StoreH 2 K.d s.ws w0 wx _ hO rfl i c hc v hv
    · refine (RStore_ok 4 3 K.r K.g K.N s.rs i r hr v w0 wx _ hO (q_rd (s := { s with ws := _ }) h.any (by omega))).mono ?_
      rintro e w' ⟨rfl, hO'⟩
      refine ⟨rfl, ?_⟩
      exact { may := h.may, ha := h.ha, hbc := h.hbc, hN := h.hN, hM := h.hM, wl := by rw [List.length_modify]; exact h.wl, any := h.any.store i v hv, rel := h.rel.modify (fun c r h => h.store v) i, eq := h.eq, ok := h.ok, own := hO' }
  · refine ⟨8, s, s, ⟨rfl, rfl, rfl⟩, ⟨rfl, rfl, rfl⟩, fun wx hO => ?_, fun wx hO => ?_⟩
    · obtain ⟨g, hD, _⟩ := dev_does hO (show (K.P s T)[2]? = some (devP K.d s.ws) from rfl)
      refine (Store_no wx K.d g s.ws hD x v (by unfold hasE; rw [h.wl, if_pos (by omega)])).mono ?_
      rintro e w' ⟨rfl, rfl⟩
      exact ⟨rfl, hO⟩
    · refine (RStore_no 4 3 K.r K.g K.N s.rs x v (by omega) w0 wx _ hO (q_rd h.any (by omega))).mono ?_
      rintro e w' ⟨rfl, rfl⟩
      exact ⟨rfl, h.move hO⟩
theorem q_evict (h : LwQ K s T w0 w) (x : Int) : ∃ (en : Int) (s1 s2 : Qs), Keep s s1 ∧ Keep s s2 ∧
    (∀ wx, Grommet.Own w0 wx (K.P s T) → Calls Tryz.prog 19 #[ptr K.d, .int .i64 x] wx fun e w' => e = .returned (.int .i64 en) ∧ Grommet.Own w0 w' (K.P s1 T)) ∧
    ∀ wx, Grommet.Own w0 wx (K.P s1 T) → Calls Tryz.prog 20 #[ptr K.r, .int .i64 x] wx fun e w' => e = .returned (.int .i64 en) ∧ LwQ K s2 T w0 w' := by
  obtain ⟨f1, f2⟩ := h.few
  have hMN := h.hM
  by_cases hx : 0 ≤ x ∧ x < (K.M : Int)
  · obtain ⟨i, rfl⟩ := Int.eq_ofNat_of_zero_le hx.1
    have hi : i < K.N / 8 := by omega
    refine ⟨0, { s with ws := turnFrom PW.evict (8 * i) 8 s.ws }, { s with ws := turnFrom PW.evict (8 * i) 8 s.ws, rs := rturn RW.evict (8 * i) 8 s.rs }, ⟨rfl, rfl, rfl⟩, ⟨rfl, rfl, rfl⟩, fun wx hO => ?_, fun wx hO => ?_⟩
    · exact EvictH 2 K.d s.ws w0 wx _ hO rfl i (by rw [h.wl]; exact hi)
    · refine (REvict_ok 4 3 K.r K.g K.N s.rs i hi w0 wx _ hO (q_rd (s := { s with ws := _ }) h.any (by omega))).mono ?_
      rintro e w' ⟨rfl, hO'⟩
      refine ⟨rfl, ?_⟩
      exact { may := h.may, ha := h.ha, hbc := h.hbc, hN := h.hN, hM := h.hM, wl := by rw [turnFrom_len]; exact h.wl, any := h.any.evict _ _, rel := h.rel.turn (fun c r h => h.evict) (8 * i) 8, eq := h.eq, ok := h.ok, own := hO' }
  · refine ⟨8, s, s, ⟨rfl, rfl, rfl⟩, ⟨rfl, rfl, rfl⟩, fun wx hO => ?_, fun wx hO => ?_⟩
    · obtain ⟨g, hD, _⟩ := dev_does hO (show (K.P s T)[2]? = some (devP K.d s.ws) from rfl)
      refine (PEvict_no wx K.d g s.ws hD x (by unfold hasE; rw [h.wl, if_pos (by omega)])).mono ?_
      rintro e w' ⟨rfl, rfl⟩
      exact ⟨rfl, hO⟩
    · refine (REvict_no 4 3 K.r K.g K.N s.rs x (by rw [decide_eq_false_iff_not]; omega) w0 wx _ hO (q_rd h.any (by omega))).mono ?_
      rintro e w' ⟨rfl, rfl⟩
      exact ⟨rfl, h.move hO⟩
theorem q_crash (h : LwQ K s T w0 w) {pa : Option Addr} {pl pc : Nat} {ps : List Nat} (hat : ∀ wx, w0.grownBy wx none → At wx pa (ps.map u8v)) (hpl : ps.length = pl) (hcap : pl ≤ pc) (hnil : pa = none → ps = []) (hoth : ps ≠ [] → ∀ a, pa = some a → a.block < w0.heap.size) (hsm : ∀ p ∈ ps, p < 256) (hfew : pl ≤ 1000) : ∃ (s1 s2 : Qs), Keep s s1 ∧ Keep s s2 ∧
    (∀ wx, Grommet.Own w0 wx (K.P s T) → Calls Tryz.prog 21 #[ptr K.d, .slice pa pl pc] wx fun e w' => e = .returned (.int .i64 0) ∧ Grommet.Own w0 w' (K.P s1 T)) ∧
    ∀ wx, Grommet.Own w0 wx (K.P s1 T) → Calls Tryz.prog 22 #[ptr K.r, .slice pa pl pc] wx fun e w' => e = .returned (.tuple #[]) ∧ LwQ K s2 T w0 w' := by
  obtain ⟨f1, f2⟩ := h.few
  refine ⟨{ s with ws := crash s.ws ps }, { s with ws := crash s.ws ps, rs := rcrash s.rs ps K.N }, ⟨rfl, rfl, rfl⟩, ⟨rfl, rfl, rfl⟩, fun wx hO => ?_, fun wx hO => ?_⟩
  · have := CrashOldH 2 K.d s.ws w0 wx _ hO rfl K.M (by rw [h.wl, h.hM]) pa pc ps (hat wx hO.grown) hnil (by omega) hoth hsm (by omega)
    rw [hpl] at this
    exact this
  · refine (RCrash_ok 4 3 K.r K.g K.N s.rs (by omega) pa pl pc ps w0 wx _ hO (q_rd (s := { s with ws := _ }) h.any (by omega)) hat hpl hsm).mono ?_
    rintro e w' ⟨rfl, hO'⟩
    refine ⟨rfl, ?_⟩
    exact { may := h.may, ha := h.ha, hbc := h.hbc, hN := h.hN, hM := h.hM, wl := by rw [crash_len]; exact h.wl, any := ⟨by rw [rcrash_len]; exact h.any.1, rcrash_small s.rs ps h.any.2 K.N⟩, rel := h.rel.crash ps K.N h.any.1.symm, eq := h.eq, ok := h.ok, own := hO' }
end Go.Proofs.YtpdofdloclmbdaaGreat
end
section
/- CommitPlays: runs anew; phases, what is left; the law's end. -/
namespace Go.Proofs.YtpdofdloclmbdaaGreat
open Go.RowKit Go.Grommet
set_option linter.unusedVariables false
variable {K : Qc} {s : Qs} {T : List Pr} {w0 w : World}

/-- Behind a loss of power: the program's runs are new, of the document's the first ones. -/
structure LwT (K : Qc) (s : Qs) (T : List Pr) (t : Nat) (w0 w : World) : Prop where
  may : mayB (K.a : Int) (K.b : Int) (K.c : Int) = true
  ha : 1 ≤ K.a ∧ K.a ≤ 4
  hbc : K.b ≤ 9 ∧ K.c ≤ 21
  hN : 280 + 208 * K.a + 16 * K.b + 8 * K.c = K.N
  hM : K.N = 8 * K.M
  wl : s.ws.length = K.N
  any : AnyR K.N s.rs
  rel : Rel s.ws s.rs
  new : ∀ k, s.Sp k = []
  nil : ∀ k, k < t → s.Sq k = []
  own : Grommet.Own w0 w (K.P s T)
theorem LwT.done (h : LwT K s T K.a w0 w) : LwQ K s T w0 w :=
  { may := h.may, ha := h.ha, hbc := h.hbc, hN := h.hN, hM := h.hM, wl := h.wl, any := h.any, rel := h.rel, eq := fun k hk => (h.nil k hk).trans (h.new k).symm, ok := fun k hk => by rw [h.new k]; exact OkS.nil _, own := h.own }
theorem q_len (K : Qc) (s : Qs) (T : List Pr) : (K.P s T).length = 7 + K.a + K.a + T.length := by
  unfold Qc.P
  simp only [List.length_cons, List.length_append, runsB_len, refsB_len]
  omega
theorem get_skip {A B : List Pr} {n j : Nat} (h : A.length = n) : (A ++ B)[n + j]? = B[j]? := by
  rw [List.getElem?_append_right (by omega), h, Nat.add_sub_cancel_left]
theorem q_rest (s s' : Qs) (h : s'.Sq = s.Sq) {i : Nat} (hi : 7 + K.a ≤ i) : (K.P s' T)[i]? = (K.P s T)[i]? := by
  obtain ⟨j, rfl⟩ := Nat.exists_eq_add_of_le hi
  unfold Qc.P
  rw [show 7 + K.a + j = (K.a + j) + 7 from by omega]
  simp only [List.getElem?_cons_succ]
  rw [get_skip (runsB_len ..), get_skip (runsB_len ..), h]
theorem q_head (s s' : Qs) (hw : s'.ws = s.ws) (hr : s'.rs = s.rs) {i : Nat} (hi : i < 6) : (K.P s' T)[i]? = (K.P s T)[i]? := by
  unfold Qc.P
  rw [hw, hr]
  rcases (show i = 0 ∨ i = 1 ∨ i = 2 ∨ i = 3 ∨ i = 4 ∨ i = 5 by omega) with rfl | rfl | rfl | rfl | rfl | rfl <;> rfl
theorem q_anew {Rs' : Nat → Nat} {qa ca : Nat} (hO : Grommet.Own w0 w ((K.P s T ++ [rowP 48 1 (.slice (some ⟨qa, 0, none⟩) K.a ca) K.a (ptrsL Rs' K.a)]) ++ runsB K.d K.a K.b K.c Rs' (fun _ => []) K.a)) :
    Grommet.Own w0 w (K.P { s with Rs := Rs', qa := qa, ca := ca, Sp := fun _ => [] } T) := by
  have hl1 := q_len K s T
  have hl2 := q_len K { s with Rs := Rs', qa := qa, ca := ca, Sp := fun _ => [] } T
  have hrl := runsB_len K.d K.a K.b K.c Rs' (fun _ => []) K.a
  refine own_permute (fun j => if j = 6 then (K.P s T).length else if 7 ≤ j ∧ j < 7 + K.a then (K.P s T).length + 1 + (j - 7) else j) hO (fun j hj => ?_) (fun i j hi hj hne => ?_)
  · rw [hl2] at hj
    by_cases h6 : j = 6
    · subst h6
      rw [if_pos rfl]
      refine ⟨by simp <;> omega, ?_⟩
      rw [List.getElem?_append_left (by simp), last_get]
      rfl
    · rw [if_neg h6]
      by_cases h7 : 7 ≤ j ∧ j < 7 + K.a
      · rw [if_pos h7]
        obtain ⟨k, rfl⟩ := Nat.exists_eq_add_of_le h7.1
        have hk : k < K.a := by omega
        refine ⟨by simp <;> omega, ?_⟩
        rw [q_run (s := { s with Rs := Rs', qa := qa, ca := ca, Sp := fun _ => [] }) hk, List.getElem?_append_right (by simp), List.length_append, List.length_singleton, Nat.add_sub_cancel_left, Nat.add_sub_cancel_left, runsB_get _ _ _ _ _ _ hk]
      · rw [if_neg h7]
        refine ⟨by simp <;> omega, ?_⟩
        rw [List.append_assoc, List.getElem?_append_left (by omega)]
        by_cases h8 : j < 6
        · exact q_head s { s with Rs := Rs', qa := qa, ca := ca, Sp := fun _ => [] } rfl rfl h8
        · exact q_rest s { s with Rs := Rs', qa := qa, ca := ca, Sp := fun _ => [] } rfl (by omega)
  · rw [hl2] at hi hj
    show (if i = 6 then _ else _) ≠ (if j = 6 then _ else _)
    split <;> split <;> (try split) <;> (try split) <;> omega
theorem q_runs (h : LwQ K s T w0 w) : Calls Tryz.prog 11 #[ptr K.d, .agg #[.int .i64 (K.a : Int), .int .i64 (K.b : Int), .int .i64 (K.c : Int)]] w fun e w' => ∃ s', e = .returned (.tuple #[.slice (some ⟨s'.qa, 0, none⟩) K.a s'.ca, .bool true]) ∧ LwT K s' T 0 w0 w' := by
  refine (runsBH 2 K.d K.a K.b K.c s.ws w0 w _ h.own rfl h.ha h.may (by rw [h.wl, h.hN]; exact Nat.le_refl _)).mono ?_
  rintro e w' ⟨Rs', ad, cap, rfl, hO⟩
  obtain ⟨qa, rfl, _⟩ := Own.cell hO (K.P s T).length (by rw [List.getElem?_append_left (by simp)]; exact last_get) 0 _ (ptrsL_get Rs' (by have := h.ha; omega : 0 < K.a))
  exact ⟨{ s with Rs := Rs', qa := qa, ca := cap, Sp := fun _ => [] }, rfl, { may := h.may, ha := h.ha, hbc := h.hbc, hN := h.hN, hM := h.hM, wl := h.wl, any := h.any, rel := h.rel, new := fun _ => rfl, nil := fun k hk => absurd hk (by omega), own := q_anew hO }⟩
/-- One of the document's runs is emptied. -/
theorem q_nil {t : Nat} (h : LwT K s T t w0 w) (ht : t < K.a) : w.cell? ⟨K.bq, t, none⟩ = some (.pointer (some ⟨K.Rq t, 0, none⟩)) ∧ (∃ v, w.cell? ⟨K.Rq t, 5, none⟩ = some v) ∧ w.frozen? ⟨K.Rq t, 5, none⟩ = false ∧ ∃ s', s'.qa = s.qa ∧ s'.ca = s.ca ∧ LwT K s' T (t + 1) w0 (w.setCell ⟨K.Rq t, 5, none⟩ (.slice none 0 0)) := by
  obtain ⟨_, _, _, _, _, ⟨ad, cap, c5⟩, f5⟩ := ref_cells h.own _ (q_ref ht)
  obtain ⟨b, he, c1, _, _⟩ := Own.cell h.own 5 rfl t _ (ptrsL_get K.Rq ht)
  cases he
  refine ⟨c1, ⟨_, c5⟩, f5, { s with Sq := fun j => if j = t then [] else s.Sq j }, rfl, rfl, ?_⟩
  have hO := ref_nil h.own _ (q_ref ht)
  rw [q_setQ t ht] at hO
  exact { may := h.may, ha := h.ha, hbc := h.hbc, hN := h.hN, hM := h.hM, wl := h.wl, any := h.any, rel := h.rel, new := h.new, nil := fun k hk => (by
    show (if k = t then [] else s.Sq k) = []
    by_cases e : k = t
    · rw [if_pos e]
    · rw [if_neg e]; exact h.nil k (by omega)), own := hO }

def phS : List (Nat × Cl) → Nat
  | [] => 0
  | s :: _ => s.1
theorem phS_le {N : Nat} {S : List (Nat × Cl)} (h : OkS N S) : phS S ≤ 6 := by
  cases S with
  | nil => show 0 ≤ 6; decide
  | cons x S => exact (h x (List.mem_cons_self ..)).2
theorem q_ask (h : LwQ K s T w0 w) {k : Nat} (hk : k < K.a) : ∃ (p n : Nat) (ad : Option Addr) (cp : Nat), p ≤ 6 ∧
    (Calls Tryz.prog 25 #[ptr (s.Rs k)] w fun e w' => e = .returned (.int .u8 (p : Int)) ∧ w' = w) ∧
    (Calls Tryz.prog 26 #[.pointer (some ⟨K.Rq k, 0, none⟩)] w fun e w' => e = .returned (.int .i64 (p : Int)) ∧ w' = w) ∧
    (Calls Tryz.prog 27 #[ptr (s.Rs k)] w fun e w' => e = .returned (.int .i64 (n : Int)) ∧ w' = w) ∧
    w.cell? ⟨K.Rq k, 5, none⟩ = some (.slice ad n cp) := by
  have hr := q_run (K := K) (s := s) (T := T) hk
  have hq := q_ref (K := K) (s := s) (T := T) hk
  rw [h.eq k hk] at hq
  obtain ⟨_, _, _, _, _, ⟨ad, cp, c5⟩, _⟩ := ref_cells h.own _ hq
  refine ⟨phS (s.Sp k), (s.Sp k).length, ad, cp, phS_le (h.ok k hk), (PhaseV _ _ _ _ _ _ _ _ w0 w _ h.own hr).mono ?_, ?_, LeftV _ _ _ _ _ _ _ _ w0 w _ h.own hr, c5⟩
  · rintro e w' ⟨rfl, rfl⟩
    refine ⟨?_, rfl⟩
    revert hr
    generalize s.Sp k = S
    intro hr
    cases S <;> rfl
  · cases hS : s.Sp k with
    | nil => rw [hS] at hq; exact PhaseRE _ _ _ _ _ _ _ w0 w _ h.own hq
    | cons x S => rw [hS] at hq; exact PhaseRH _ _ _ _ _ _ _ x.1 x.2 S w0 w _ h.own hq
/-- The pointers of both. -/
theorem q_ptrs (hO : Grommet.Own w0 w (K.P s T)) {k : Nat} (hk : k < K.a) : w.cell? ⟨s.qa, k, none⟩ = some (.pointer (some ⟨s.Rs k, 0, none⟩)) ∧ w.cell? ⟨K.bq, k, none⟩ = some (.pointer (some ⟨K.Rq k, 0, none⟩)) := by
  obtain ⟨b, he, c1, _, _⟩ := Own.cell hO 5 rfl k _ (ptrsL_get K.Rq hk)
  obtain ⟨b2, he2, c2, _, _⟩ := Own.cell hO 6 rfl k _ (ptrsL_get s.Rs hk)
  cases he
  cases he2
  exact ⟨c2, c1⟩
theorem q_geo (hO : Grommet.Own w0 w (K.P s T)) : GeoT K.X9 (K.a : Int) (K.b : Int) (K.c : Int) w ∧ GeoT K.X10 (K.a : Int) (K.b : Int) (K.c : Int) w := by
  have h1 := hO.box 0 (X := K.X9) (T := 26) (cs := K.geo) rfl
  have h2 := hO.box 1 (X := K.X10) (T := 28) (cs := K.geo) rfl
  unfold Qc.geo at h1 h2
  exact ⟨⟨by simp [World.cell?, h1], by simp [World.cell?, h1], by simp [World.cell?, h1]⟩, ⟨by simp [World.cell?, h2], by simp [World.cell?, h2], by simp [World.cell?, h2]⟩⟩

/-- Words that stand somewhere, and stay. -/
def vRow (ad : Option Addr) (n cap : Nat) (xs : List Nat) : Pr := rowP 44 1 (.slice ad n cap) n (xs.map wv)
/-- The law's end: what both see. The rows are kept as facts about words, the world only grows. -/
structure Seens (w : World) (ad : Option Addr) (n cap : Nat) (xs : List Nat) : Prop where
  at_ : ∀ wx, w.grownBy wx none → Words wx ad n xs
  cap : n ≤ cap
  some : ∃ q, ad = some ⟨q, 0, none⟩
theorem Seens.of {Ps : List Pr} {ad : Option Addr} {n cap : Nat} {xs : List Nat} (hO : Grommet.Own w0 w (Ps ++ [rowP 44 1 (.slice ad n cap) n (xs.map wv)])) (hs : ∀ v ∈ xs, v < 18446744073709551616) (hl : xs.length = n) (hn : 0 < n) (hf : n ≤ 100000) : Seens w ad n cap xs := by
  obtain ⟨h1, _, h2⟩ := Own.words hO Ps.length last_get hs (by omega)
  refine ⟨fun wx hg => h1.keep hg (by simp), h2, ?_⟩
  obtain ⟨q, he, _⟩ := Own.cell hO Ps.length last_get 0 (wv (xs.getD 0 0)) (by rw [List.getElem?_map, List.getElem?_eq_getElem (by omega), List.getD_eq_getElem?_getD, List.getElem?_eq_getElem (by omega)]; rfl)
  exact ⟨q, he⟩
end Go.Proofs.YtpdofdloclmbdaaGreat
end
section
/- CommitPlays: the law's beginning and its end. -/
namespace Go.Proofs.YtpdofdloclmbdaaGreat
open Go.RowKit Go.Grommet
set_option linter.unusedVariables false
variable {K : Qc} {s : Qs} {T : List Pr} {w0 w : World}

/-- Several of the document's runs, and pointers to them, behind other things. -/
def refsP (Ps : List Pr) (r a b c : Nat) (ad : Option Addr) (cap : Nat) (Rs : Nat → Nat) (t : Nat) : List Pr := (Ps ++ [rowP 39 1 (.slice ad t cap) t (ptrsL Rs t)]) ++ refsB r a b c Rs (fun _ => []) t
theorem refs_zero (Ps : List Pr) (r a b c : Nat) (h : Grommet.Own w0 w Ps) : Grommet.Own w0 w (refsP Ps r a b c none 0 (fun _ => 0) 0) := by
  have := h.add (P := rowP 39 1 (.slice none 0 0) 0 []) (F := fun _ => False) ⟨World.ownsRow_nil _ _ _ _, ⟨fun i hi => (by cases hi), fun i hi => False.elim hi⟩⟩ (fun i hi => False.elim hi) (World.grownBy.refl _ _)
  unfold refsP
  rw [show refsB r a b c (fun _ => 0) (fun _ => []) 0 = [] from rfl, List.append_nil]
  exact this
theorem refs_new (kd kr g n : Nat) (Ps : List Pr) (r a b c : Nat) (ad : Option Addr) (cap : Nat) (Rs : Nat → Nat) (t : Nat) (rs : List RW) (hD : RD Ps kd kr r g n rs) (hmay : mayB (a : Int) (b : Int) (c : Int) = true) (ht : t < a) (hn : 280 + 208 * a + 16 * b + 8 * c ≤ n) (h : Grommet.Own w0 w (refsP Ps r a b c ad cap Rs t)) :
    Calls Tryz.prog 12 #[.pointer (some ⟨r, 0, none⟩), .agg #[.int .i64 (a : Int), .int .i64 (b : Int), .int .i64 (c : Int)], .int .i64 (t : Int)] w fun e w' => ∃ R, e = .returned (.tuple #[.pointer (some ⟨R, 0, none⟩), .int .i64 0]) ∧ Grommet.Own w0 w' (refsP Ps r a b c ad cap Rs t ++ [refP R r (a : Int) (b : Int) (c : Int) (t : Int) []]) := by
  have hbl := (List.getElem?_eq_some_iff.1 hD.box).1
  have hrl := (List.getElem?_eq_some_iff.1 hD.row).1
  refine NewR9 kd kr r g n a b c t (264 + 208 * t) rs w0 w _ h ⟨?_, ?_, hD.ne, hD.len, hD.small, hD.few⟩ (by unfold areaV; rw [if_pos ⟨hmay, by omega, by omega⟩]; omega) (by rw [words_pos hmay]; omega)
  · unfold refsP; rw [List.append_assoc, List.getElem?_append_left hbl]; exact hD.box
  · unfold refsP; rw [List.append_assoc, List.getElem?_append_left hrl]; exact hD.row
theorem refs_add (Ps : List Pr) (r a b c : Nat) (ad : Option Addr) (cap : Nat) (Rs : Nat → Nat) (t R : Nat) (ht : t ≤ 100) (hO : Grommet.Own w0 w (refsP Ps r a b c ad cap Rs t ++ [refP R r (a : Int) (b : Int) (c : Int) (t : Int) []])) :
    ∃ ad' cap' w2 Rs', (Builtin.append_ #[38, 38] 38 #[.slice ad t cap, .slice (some ⟨w.heap.size, 0, none⟩) 1 1]).run Tryz.prog (w.alloc (.cells #[ptr R] 39)) = .ok (.slice ad' (t + 1) cap') w2 ∧ Grommet.Own w0 w2 (refsP Ps r a b c ad' cap' Rs' (t + 1)) := by
  obtain ⟨Rs', hRs⟩ : ∃ Rs' : Nat → Nat, ∀ k, Rs' k = if k = t then R else Rs k := ⟨fun k => if k = t then R else Rs k, fun _ => rfl⟩
  have hR1 : ∀ k, k < t → Rs' k = Rs k := fun k hk => by rw [hRs, if_neg (by omega)]
  have hRt : Rs' t = R := by rw [hRs, if_pos rfl]
  unfold refsP at hO
  obtain ⟨ad', cap', w2, hr, hO2⟩ := rptr_added hO Ps.length (xs := ptrsL Rs t) (n := t) (ad := ad) (cap := cap) (by rw [List.append_assoc, List.append_assoc, List.getElem?_append_right (Nat.le_refl _), Nat.sub_self]; rfl) R 38 (by omega)
  refine ⟨ad', cap', w2, Rs', hr, ?_⟩
  unfold refsP
  rw [ptrsL_snoc, hRt, ptrsL_congr hR1, refsB_snoc, hRt, refsB_congr r a b c hR1 (fun _ _ => rfl), ← List.append_assoc]
  rw [List.append_assoc, List.append_assoc, List.set_append_right _ _ (Nat.le_refl _), Nat.sub_self] at hO2
  rw [List.append_assoc, List.append_assoc]
  exact hO2
/-- The law's beginning. -/
def baseP (X9 X10 a b c d r g N : Nat) (F : Pr) (ws : List PW) (rs : List RW) (qa ca : Nat) (Rs : Nat → Nat) : List Pr :=
  [boxP X9 26 #[.int .i64 (a : Int), .int .i64 (b : Int), .int .i64 (c : Int)], boxP X10 28 #[.int .i64 (a : Int), .int .i64 (b : Int), .int .i64 (c : Int)], F, devP d ws, rowR g N rs, boxR r g N, rowP 48 1 (.slice (some ⟨qa, 0, none⟩) a ca) a (ptrsL Rs a)] ++ runsB d a b c Rs (fun _ => []) a
theorem base_start {X9 X10 a b c d r g N qa ca bq cb : Nat} {F : Pr} {ws : List PW} {rs : List RW} {Rs Rq : Nat → Nat} (hO : Grommet.Own w0 w (refsP (baseP X9 X10 a b c d r g N F ws rs qa ca Rs) r a b c (some ⟨bq, 0, none⟩) cb Rq a)) (M : Nat) :
    Grommet.Own w0 w (Qc.P ⟨a, b, c, N, M, X9, X10, d, r, g, bq, cb, Rq⟩ ⟨ws, rs, Rs, qa, ca, fun _ => [], fun _ => []⟩ []) := by
  have hl2 := q_len ⟨a, b, c, N, M, X9, X10, d, r, g, bq, cb, Rq⟩ ⟨ws, rs, Rs, qa, ca, fun _ => [], fun _ => []⟩ []
  have hrl := runsB_len d a b c Rs (fun _ => []) a
  have hql := refsB_len r a b c Rq (fun _ => []) a
  have hbl : (baseP X9 X10 a b c d r g N F ws rs qa ca Rs).length = 7 + a := by unfold baseP; rw [List.length_append, hrl]; rfl
  refine own_permute (fun j => if j < 2 then j else if j < 5 then j + 1 else if j = 5 then 7 + a else if j < 7 + a then j else j + 1) hO (fun j hj => ?_) (fun i j hi hj hne => ?_)
  · have hj2 : j < 7 + a + a := by simpa using (hl2 ▸ hj)
    have hlen : (refsP (baseP X9 X10 a b c d r g N F ws rs qa ca Rs) r a b c (some ⟨bq, 0, none⟩) cb Rq a).length = 8 + a + a := by
      unfold refsP; rw [List.length_append, List.length_append, hbl, hql]; simp; omega
    rw [hlen]
    by_cases h2 : j < 2
    · rw [if_pos h2]
      refine ⟨by omega, ?_⟩
      rcases (show j = 0 ∨ j = 1 by omega) with rfl | rfl <;> rfl
    · rw [if_neg h2]
      by_cases h5 : j < 5
      · rw [if_pos h5]
        refine ⟨by omega, ?_⟩
        rcases (show j = 2 ∨ j = 3 ∨ j = 4 by omega) with rfl | rfl | rfl <;> rfl
      · rw [if_neg h5]
        by_cases h55 : j = 5
        · rw [if_pos h55]
          subst h55
          refine ⟨by omega, ?_⟩
          unfold refsP
          rw [List.append_assoc, List.getElem?_append_right (by omega), hbl, Nat.sub_self]
          rfl
        · rw [if_neg h55]
          by_cases h7 : j < 7 + a
          · rw [if_pos h7]
            refine ⟨by omega, ?_⟩
            unfold refsP
            rw [List.append_assoc, List.getElem?_append_left (by omega)]
            by_cases h6 : j = 6
            · subst h6; rfl
            · obtain ⟨k, rfl⟩ := Nat.exists_eq_add_of_le (show 7 ≤ j by omega)
              have hk : k < a := by omega
              rw [q_run (K := ⟨a, b, c, N, M, X9, X10, d, r, g, bq, cb, Rq⟩) (s := ⟨ws, rs, Rs, qa, ca, fun _ => [], fun _ => []⟩) (T := []) hk]
              unfold baseP
              rw [get_skip (by rfl), runsB_get _ _ _ _ _ _ hk]
          · rw [if_neg h7]
            refine ⟨by omega, ?_⟩
            obtain ⟨k, rfl⟩ := Nat.exists_eq_add_of_le (show 7 + a ≤ j by omega)
            have hk : k < a := by omega
            rw [q_ref (K := ⟨a, b, c, N, M, X9, X10, d, r, g, bq, cb, Rq⟩) (s := ⟨ws, rs, Rs, qa, ca, fun _ => [], fun _ => []⟩) (T := []) hk]
            unfold refsP
            rw [show 7 + a + k + 1 = (7 + a + 1) + k from by omega, get_skip (by rw [List.length_append, hbl]; rfl), refsB_get _ _ _ _ _ _ hk]
  · have hi2 : i < 7 + a + a := by simpa using (hl2 ▸ hi)
    have hj2 : j < 7 + a + a := by simpa using (hl2 ▸ hj)
    show (if i < 2 then _ else _) ≠ (if j < 2 then _ else _)
    split <;> split <;> (try split) <;> (try split) <;> (try split) <;> (try split) <;> (try split) <;> (try split) <;> omega

theorem q_T (K : Qc) (s : Qs) (T : List Pr) (i : Nat) : (K.P s T)[(7 + K.a + K.a) + i]? = T[i]? := by
  have h := q_len K s []
  rw [show K.P s T = K.P s [] ++ T from by rw [← q_more, List.nil_append]]
  exact get_skip (by simpa using h)
theorem q_vrow (hO : Grommet.Own w0 w (K.P s T)) {i : Nat} {ad : Option Addr} {cp : Nat} {xs : List Nat} (hi : T[i]? = some (vRow ad K.N cp xs)) (hs : ∀ v ∈ xs, v < 18446744073709551616) (hN : K.N ≤ 100000) : Words w ad K.N xs ∧ K.N ≤ cp := by
  obtain ⟨h1, _, h2⟩ := Own.words hO _ ((q_T K s T i).trans hi) hs (by omega)
  exact ⟨h1, h2⟩
theorem q_vsome {Ps : List Pr} {ad : Option Addr} {n cap : Nat} {xs : List Nat} (hO : Grommet.Own w0 w (Ps ++ [vRow ad n cap xs])) (hl : xs.length = n) (hn : 0 < n) : ∃ q, ad = some ⟨q, 0, none⟩ := by
  obtain ⟨q, he, _⟩ := Own.cell hO Ps.length last_get 0 (wv (xs.getD 0 0)) (by rw [List.getElem?_map, List.getElem?_eq_getElem (by omega), List.getD_eq_getElem?_getD, List.getElem?_eq_getElem (by omega)]; rfl)
  exact ⟨q, he⟩
/-- A call that hands back words in a new row. -/
def NewRow (K : Qc) (s : Qs) (T : List Pr) (xs : List Nat) (w0 : World) (e : Ending) (w' : World) : Prop := ∃ q cp, e = .returned (.slice (some ⟨q, 0, none⟩) K.N cp) ∧ Grommet.Own w0 w' (K.P s (T ++ [vRow (some ⟨q, 0, none⟩) K.N cp xs]))
theorem q_seen (h : LwQ K s [] w0 w) {wx : World} (T : List Pr) (hO : Grommet.Own w0 wx (K.P s T)) : Calls Tryz.prog 28 #[ptr K.d] wx (NewRow K s T (s.ws.map (·.seen)) w0) := by
  have hf := h.few
  refine (SeenH 2 K.d s.ws w0 wx _ hO rfl K.M (by rw [h.wl, h.hM])).mono ?_
  rintro e w' ⟨ad, cp, rfl, hO2⟩
  rw [h.wl] at hO2 ⊢
  obtain ⟨q, rfl⟩ := q_vsome hO2 (by rw [List.length_map, h.wl]) (by omega)
  exact ⟨q, cp, rfl, by rw [q_more]; exact hO2⟩
theorem q_sure (h : LwQ K s [] w0 w) {wx : World} (T : List Pr) (hO : Grommet.Own w0 wx (K.P s T)) : Calls Tryz.prog 29 #[ptr K.d] wx (NewRow K s T (s.ws.map (·.sure)) w0) := by
  have hf := h.few
  refine (SureH 2 K.d s.ws w0 wx _ hO rfl K.M (by rw [h.wl, h.hM])).mono ?_
  rintro e w' ⟨ad, cp, rfl, hO2⟩
  rw [h.wl] at hO2 ⊢
  obtain ⟨q, rfl⟩ := q_vsome hO2 (by rw [List.length_map, h.wl]) (by omega)
  exact ⟨q, cp, rfl, by rw [q_more]; exact hO2⟩
theorem q_rseen (h : LwQ K s [] w0 w) {wx : World} (T : List Pr) (hO : Grommet.Own w0 wx (K.P s T)) : Calls Tryz.prog 31 #[ptr K.r] wx (NewRow K s T (s.ws.map (·.seen)) w0) := by
  have hf := h.few
  refine (RSeen_any 4 3 K.r K.g K.N s.rs w0 wx _ hO (q_rd h.any (by omega))).mono ?_
  rintro e w' ⟨ad, cp, rfl, hO2⟩
  rw [colS_all _ _ _ (by rw [h.any.1]; exact Nat.le_refl _), ← h.rel.same (p := (·.seen)) (q := (·.seen)) (fun c r h => h.seen)] at hO2
  obtain ⟨q, rfl⟩ := q_vsome hO2 (by rw [List.length_map, h.wl]) (by omega)
  exact ⟨q, cp, rfl, by rw [q_more]; exact hO2⟩
theorem q_rsure (h : LwQ K s [] w0 w) {wx : World} (T : List Pr) (hO : Grommet.Own w0 wx (K.P s T)) : Calls Tryz.prog 32 #[ptr K.r] wx (NewRow K s T (s.ws.map (·.sure)) w0) := by
  have hf := h.few
  refine (RSure_any 4 3 K.r K.g K.N s.rs w0 wx _ hO (q_rd h.any (by omega))).mono ?_
  rintro e w' ⟨ad, cp, rfl, hO2⟩
  rw [colS_all _ _ _ (by rw [h.any.1]; exact Nat.le_refl _), ← h.rel.same (p := (·.sure)) (q := (·.sure)) (fun c r h => h.sure)] at hO2
  obtain ⟨q, rfl⟩ := q_vsome hO2 (by rw [List.length_map, h.wl]) (by omega)
  exact ⟨q, cp, rfl, by rw [q_more]; exact hO2⟩
theorem q_same (h : LwQ K s [] w0 w) {wx : World} (T : List Pr) (hO : Grommet.Own w0 wx (K.P s T)) (i j : Nat) {q1 c1 q2 c2 : Nat} {xs : List Nat} (hi : T[i]? = some (vRow (some ⟨q1, 0, none⟩) K.N c1 xs)) (hj : T[j]? = some (vRow (some ⟨q2, 0, none⟩) K.N c2 xs)) (hs : ∀ v ∈ xs, v < 18446744073709551616) :
    Calls Tryz.prog 30 #[.slice (some ⟨q1, 0, none⟩) K.N c1, .slice (some ⟨q2, 0, none⟩) K.N c2] wx fun e w' => e = .returned (.bool true) ∧ Grommet.Own w0 w' (K.P s T) := by
  have hf := h.few
  obtain ⟨h1, _⟩ := q_vrow hO hi hs (by omega)
  obtain ⟨h2, _⟩ := q_vrow hO hj hs (by omega)
  refine (Same_any (some ⟨q1, 0, none⟩) (some ⟨q2, 0, none⟩) K.N K.N c1 c2 xs xs wx h1 h2).mono ?_
  rintro e w' ⟨rfl, hg⟩
  exact ⟨by rw [decide_eq_true rfl], hO.quiet hg⟩
theorem q_over (h : LwQ K s [] w0 w) {wx : World} (T : List Pr) (hO : Grommet.Own w0 wx (K.P s T)) (i : Nat) {q1 c1 : Nat} {xs : List Nat} (hi : T[i]? = some (vRow (some ⟨q1, 0, none⟩) K.N c1 xs)) (hs : ∀ v ∈ xs, v < 18446744073709551616) :
    Calls Tryz.prog 33 #[.agg #[.int .i64 (K.a : Int), .int .i64 (K.b : Int), .int .i64 (K.c : Int)], .slice (some ⟨q1, 0, none⟩) K.N c1] wx (NewRow K s T (overS (K.a : Int) (K.b : Int) (K.c : Int) xs K.a) w0) := by
  have hf := h.few
  obtain ⟨h1, hc⟩ := q_vrow hO hi hs (by omega)
  have hl : (overS (K.a : Int) (K.b : Int) (K.c : Int) xs K.a).length = K.N := by rw [overS_length, h1.len]
  refine (Over_yes wx.heap.size K.a K.b K.c q1 0 K.N c1 xs wx h1 hc h.may (by have := h.hN; omega) (by omega) (Nat.le_refl _)).mono ?_
  rintro e w' ⟨ad, cp, rfl, hrow, hg⟩
  rw [hl] at hrow ⊢
  have hO2 := hO.addRow hrow hg
  obtain ⟨q, rfl⟩ := q_vsome hO2 hl (by omega)
  exact ⟨q, cp, rfl, by rw [q_more]; exact hO2⟩
theorem q_rover (h : LwQ K s [] w0 w) {wx : World} (T : List Pr) (hO : Grommet.Own w0 wx (K.P s T)) (i : Nat) {q1 c1 : Nat} {xs : List Nat} (hi : T[i]? = some (vRow (some ⟨q1, 0, none⟩) K.N c1 xs)) (hs : ∀ v ∈ xs, v < 18446744073709551616) :
    Calls Tryz.prog 34 #[.agg #[.int .i64 (K.a : Int), .int .i64 (K.b : Int), .int .i64 (K.c : Int)], .slice (some ⟨q1, 0, none⟩) K.N c1] wx (NewRow K s T (overS (K.a : Int) (K.b : Int) (K.c : Int) xs K.a) w0) := by
  have hf := h.few
  obtain ⟨h1, hc⟩ := q_vrow hO hi hs (by omega)
  have hl : (overS (K.a : Int) (K.b : Int) (K.c : Int) xs K.a).length = K.N := by rw [overS_length, h1.len]
  refine (ROver_yes wx.heap.size K.a K.b K.c q1 0 K.N c1 xs wx h1 hc h.may (by have := h.hN; omega) (by omega) (Nat.le_refl _)).mono ?_
  rintro e w' ⟨ad, cp, rfl, hrow, hg⟩
  rw [← over_same h.may (by rw [h1.len]; omega)] at hrow ⊢
  rw [hl] at hrow ⊢
  have hO2 := hO.addRow hrow hg
  obtain ⟨q, rfl⟩ := q_vsome hO2 hl (by omega)
  exact ⟨q, cp, rfl, by rw [q_more]; exact hO2⟩
end Go.Proofs.YtpdofdloclmbdaaGreat
end
section
/- The example of the chapter commit, over the calls' contracts. -/
namespace Go.Proofs.YtpdofdloclmbdaaGreat
open Go.RowKit Go.Grommet
set_option linter.unusedVariables false

def WorksC (w : World) (e : Ending) (w' : World) : Prop := e = .returned (.bool true) ∧ w.grownBy w' none
def exW : List (Int × Nat) := [(528, 7)]
def exS : List (Nat × Cl) := beginS 67 264 exW
def exD : List PW := List.replicate 536 PW.nought
theorem exS_len : exS.length = 15 := by decide +kernel
theorem exS_seen : (doAll exS exD)[528]?.map (·.seen) = some 7 := by decide +kernel
theorem exS_loose : looseOf (doAll exS exD) = 0 := by decide +kernel
theorem exS_ok : OkS 536 exS := OkS.begin_ 67 264 536 exW (by decide) (by decide +kernel) (by decide +kernel) (by decide +kernel)
theorem exW_may : mayW ((1 : Nat) : Int) ((2 : Nat) : Int) ((2 : Nat) : Int) exW = true := by decide +kernel
theorem ex_area : areaV ((1 : Nat) : Int) ((2 : Nat) : Int) ((2 : Nat) : Int) ((0 : Nat) : Int) = ((264 : Nat) : Int) := by decide +kernel
theorem ex_words : wordsV ((1 : Nat) : Int) ((2 : Nat) : Int) ((2 : Nat) : Int) = 536 := by decide +kernel
theorem ex_block : blockV 1 2 2 1 = 528 := by decide +kernel

set_option maxRecDepth 100000 in
set_option maxHeartbeats 4000000 in
theorem works_c (w : World) : Calls Tryz.prog 7 #[] w (WorksC w) := by
  obtain ⟨w1, hw1⟩ : ∃ u, w.alloc (.cells #[.int .i64 1, .int .i64 2, .int .i64 2] 26) = u := ⟨_, rfl⟩
  obtain ⟨G, hG⟩ : ∃ v, w.heap.size = v := ⟨_, rfl⟩
  have hO1 : Grommet.Own w w1 [boxP G 26 #[.int .i64 1, .int .i64 2, .int .i64 2]] := by rw [← hw1, ← hG]; exact (Own.nil w).addBox _ _
  have HG := Lib.hid (fun (wx : World) (Q : List Pr) (hO : Grommet.Own w wx ([boxP G 26 #[.int .i64 1, .int .i64 2, .int .i64 2]] ++ Q)) => GeoQ.cells (show GeoQ G 1 2 2 wx from hO.box 0 rfl))
  have HN := Lib.hid (NewH 536 w w1 _ hO1 (by decide) (by decide) (by decide))
  have HR := Lib.hid (fun (wx : World) (d : Nat) (hO : Grommet.Own w wx ([boxP G 26 #[.int .i64 1, .int .i64 2, .int .i64 2]] ++ [devP d exD])) => RNewH 1 d 1 2 2 0 264 exD w wx _ hO rfl ex_area (by rw [ex_words]; decide +kernel))
  have HB := Lib.hid (fun wx => BlockAt_any 1 2 2 1 wx)
  rw [ex_block] at HB
  have HBe := Lib.hid (fun (wx : World) (d R Y : Nat) (hO : Grommet.Own w wx [boxP G 26 #[.int .i64 1, .int .i64 2, .int .i64 2], devP d exD, runE R d 1 2 2 264 [], rowP 92 2 (.slice (some ⟨Y, 0, none⟩) 1 1) 1 (icells exW)]) => BeginV 2 3 R d 1 2 2 264 (some ⟨Y, 0, none⟩) 1 1 exW 67 w wx _ hO rfl rfl (by decide) rfl exW_may (by decide +kernel) (by decide +kernel) (by decide) (by decide) (by decide))
  have HL := Lib.hid (fun (wx : World) (d R : Nat) (ws : List PW) (S : List (Nat × Cl)) (Q : List Pr) (hO : Grommet.Own w wx ([boxP G 26 #[.int .i64 1, .int .i64 2, .int .i64 2], devP d ws, runE R d 1 2 2 264 S] ++ Q)) => LeftV 2 R d 1 2 2 264 S w wx _ hO rfl)
  have HPh := Lib.hid (fun (wx : World) (d R : Nat) (ws : List PW) (Q : List Pr) (hO : Grommet.Own w wx ([boxP G 26 #[.int .i64 1, .int .i64 2, .int .i64 2], devP d ws, runE R d 1 2 2 264 []] ++ Q)) => PhaseV 2 R d 1 2 2 264 [] w wx _ hO rfl)
  have HSt0 : ∀ (wx : World) (d R i : Nat) (Q : List Pr), i < 15 → Grommet.Own w wx ([boxP G 26 #[.int .i64 1, .int .i64 2, .int .i64 2], devP d (doAll (exS.take i) exD), runE R d 1 2 2 264 (exS.drop i)] ++ Q) → ∃ p : Nat, Calls Tryz.prog 23 #[ptr R] wx fun e w' => e = .returned (.tuple #[.int .u8 (p : Int), .int .i64 0]) ∧ Grommet.Own w w' ([boxP G 26 #[.int .i64 1, .int .i64 2, .int .i64 2], devP d (doAll (exS.take (i + 1)) exD), runE R d 1 2 2 264 (exS.drop (i + 1))] ++ Q) := by
    intro wx d R i Q hi hO
    have hil : i < exS.length := by rw [exS_len]; exact hi
    obtain ⟨⟨p, cl⟩, hs⟩ : ∃ s, exS[i]? = some s := ⟨exS[i], List.getElem?_eq_getElem hil⟩
    have hs2 : exS[i] = (p, cl) := (List.getElem?_eq_some_iff.1 hs).2
    have hd : exS.drop i = (p, cl) :: exS.drop (i + 1) := by rw [List.drop_eq_getElem_cons hil, hs2]
    have ht : doAll (exS.take (i + 1)) exD = cl.does (doAll (exS.take i) exD) := by
      rw [List.take_succ_eq_append_getElem hil, hs2, doAll_append]; rfl
    rw [hd] at hO
    have hlen : (doAll (exS.take i) exD).length = 536 := by rw [doAll_len]; exact List.length_replicate
    refine ⟨p, (StepV 2 1 R d 1 2 2 264 p cl (exS.drop (i + 1)) _ 67 w wx _ hO rfl rfl (by decide) hlen (by rw [hlen]; exact (exS_ok _ (List.mem_of_getElem? hs)).1)).mono ?_⟩
    rintro e w' ⟨rfl, hO'⟩
    refine ⟨rfl, ?_⟩
    rw [ht]
    exact hO'
  have HSt := Lib.hid HSt0
  have HLo := Lib.hid (fun (wx : World) (d : Nat) (Q : List Pr) (P : Pr) (hO : Grommet.Own w wx (P :: devP d (doAll exS exD) :: Q)) => LooseH 1 d (doAll exS exD) w wx _ hO rfl 67 (by rw [doAll_len]; exact List.length_replicate))
  rw [exS_loose] at HLo
  have HLd : Hid (∀ (wx : World) (d : Nat) (Q : List Pr) (P : Pr), Grommet.Own w wx (P :: devP d (doAll exS exD) :: Q) → Calls Tryz.prog 46 #[ptr d, .int .i64 528] wx fun e w' => e = .returned (.tuple #[.int .u64 7, .int .i64 0]) ∧ Grommet.Own w w' (P :: devP d (doAll exS exD) :: Q)) := Lib.hid (fun wx d Q P hO => by
    obtain ⟨g, hD, _⟩ := dev_does hO (show (P :: devP d (doAll exS exD) :: Q)[1]? = some (devP d (doAll exS exD)) from rfl)
    have h7 := exS_seen
    cases hc : (doAll exS exD)[528]? with
    | none => rw [hc] at h7; cases h7
    | some c =>
      rw [hc] at h7
      have h7 : c.seen = 7 := by simpa using h7
      have := Load_ok wx d g _ hD 528 c hc
      rw [h7] at this
      refine Calls.mono this ?_
      rintro e w' ⟨rfl, rfl⟩
      exact ⟨rfl, hO⟩)
  unfold gv IntIs at HB
  unfold gv at HR
  unfold ptr at HN HR HBe HL HPh HSt HLo HLd
  rw [show ((536 : Nat) : Int) = 536 from rfl] at HN
  rw [show ((1 : Nat) : Int) = 1 from rfl, show ((2 : Nat) : Int) = 2 from rfl, show ((0 : Nat) : Int) = 0 from rfl] at HR
  have hE0 : exS.length = 15 := exS_len
  have HE : Hid (exS = beginS 67 264 exW ∧ exD = List.replicate 536 PW.nought) := Lib.hid ⟨rfl, rfl⟩
  obtain ⟨c0, c1, c2⟩ := HG.out w1 [] hO1
  clear HSt0 hO1
  generalize exS = S at HL HSt HLo HLd HE hE0
  generalize exD = D at HR HBe HSt HLo HLd HE
  go_enter Tryz.func7, Tryz.ntmps7
  go_wp2_with fail
  refine HN.out.mono ?_
  rintro e w2 ⟨d, rfl, hO2⟩
  rw [← HE.out.2] at hO2
  obtain ⟨c0, c1, c2⟩ := HG.out w2 _ hO2
  have HR2 := Lib.hid (HR.out w2 d hO2)
  clear HN HR hO2 hw1 hG
  go_wp2_with fail
  refine HR2.out.mono ?_
  rintro e w3 ⟨R, rfl, hO3⟩
  have hO3 := run_close hO3 2 rfl
  have hO3 : Grommet.Own w w3 [boxP G 26 #[.int .i64 1, .int .i64 2, .int .i64 2], devP d D, runE R d 1 2 2 264 []] := hO3
  obtain ⟨c0, c1, c2⟩ := HG.out w3 _ hO3
  have hO3 := Lib.hid hO3
  clear HR2
  go_wp2_with fail
  refine (HB.out _).mono ?_
  rintro e w4 ⟨rfl, hg4⟩
  have hO4 := hO3.out.quiet hg4
  obtain ⟨w5, hw5⟩ : ∃ u, w4.alloc (.cells #[.int .i64 528, .int .u64 7] 92) = u := ⟨_, rfl⟩
  obtain ⟨Y, hY⟩ : ∃ v, w4.heap.size = v := ⟨_, rfl⟩
  have hO5 : Grommet.Own w w5 [boxP G 26 #[.int .i64 1, .int .i64 2, .int .i64 2], devP d D, runE R d 1 2 2 264 [], rowP 92 2 (.slice (some ⟨Y, 0, none⟩) 1 1) 1 (icells exW)] := by
    have := hO4.addRow (World.ownsRow_lit (size := 2) (base := w4.heap.size) (e := 92) w4 #[.int .i64 528, .int .u64 7] 1 (Nat.le_refl _) (by unfold maxLen; omega) rfl) (World.grownBy_alloc w4 _ none)
    rw [hw5, hY] at this
    exact this
  have HB5 := Lib.hid (HBe.out w5 d R Y hO5)
  clear HB HBe hO3 hO4 hO5 hg4 c0 c1 c2
  go_wp2_with fail
  refine HB5.out.mono ?_
  rintro e w6 ⟨rfl, hO6⟩
  have hO6 : Grommet.Own w w6 ([boxP G 26 #[.int .i64 1, .int .i64 2, .int .i64 2], devP d D, runE R d 1 2 2 264 S] ++ [rowP 92 2 (.slice (some ⟨Y, 0, none⟩) 1 1) 1 (icells exW)]) := by rw [HE.out.1]; exact hO6
  have HL6 := Lib.hid (HL.out w6 d R D S _ hO6)
  rw [hE0] at HL6
  obtain ⟨T, hT⟩ : ∃ T, [rowP 92 2 (.slice (some ⟨Y, 0, none⟩) 1 1) 1 (icells exW)] = T := ⟨_, rfl⟩
  rw [hT] at hO6
  have hz0 : Hid (Grommet.Own w w6 ([boxP G 26 #[.int .i64 1, .int .i64 2, .int .i64 2], devP d (doAll (S.take 0) D), runE R d 1 2 2 264 (S.drop 0)] ++ T)) := Lib.hid hO6
  clear HB5 hO6 hT hw5 hY HE
  go_wp2_with fail
  refine HL6.out.mono ?_
  rintro e w7 ⟨rfl, hw7⟩
  obtain rfl := hw7.symm
  clear HL6
  go_wp2_with fail
  go_loopw [9] (fun i wr => ∃ t : Nat, t ≤ 15 ∧ i = .int .i64 (t : Int) ∧ Hid (Grommet.Own w wr ([boxP G 26 #[.int .i64 1, .int .i64 2, .int .i64 2], devP d (doAll (S.take t) D), runE R d 1 2 2 264 (S.drop t)] ++ T))) (fun i _ => 15 - (intOf i).toNat)
  case atStart => exact ⟨0, Nat.zero_le _, rfl, hz0⟩
  case round =>
    clear hz0
    obtain ⟨t, ht, rfl, hO⟩ := hrel
    have t0 : (0 : Int) ≤ (t : Int) := by omega
    have t20 : (t : Int) < 20 := by omega
    have HLt := Lib.hid (HL.out wr d R _ _ _ hO.out)
    rw [List.length_drop, hE0] at HLt
    by_cases hlt : t < 15
    · as_aux_lemma =>
      obtain ⟨m, hm⟩ : ∃ m, 15 - t = m := ⟨_, rfl⟩
      rw [hm] at HLt
      have m0 : (0 : Int) < (m : Int) := by omega
      have wt : IntKind.i64.wrap ((t : Int) + 1) = (t : Int) + 1 := IntWalk.i64_in _ ⟨by omega, by omega⟩
      obtain ⟨p, HS1⟩ := HSt.out wr d R t T hlt hO.out
      have HS1 := Lib.hid HS1
      have ht1 : t + 1 ≤ 15 := by omega
      clear hO HSt HL HPh HLo HLd
      go_wp2_with fail
      refine HLt.out.mono ?_
      rintro e w7 ⟨rfl, hw7⟩
      obtain rfl := hw7.symm
      clear HLt
      go_wp2_with fail
      refine HS1.out.mono ?_
      rintro e w8 ⟨rfl, hO8⟩
      have hO8 := Lib.hid hO8
      clear HS1
      go_wp2_with fail
      go_roundw
      case rel => exact ⟨t + 1, ht1, by go_num, hO8⟩
      case measure => simp [intOf]; omega
    · as_aux_lemma =>
      obtain rfl : t = 15 := by omega
      have hO1 := hO.out
      rw [List.take_of_length_le (by omega), List.drop_of_length_le (by omega)] at hO1
      have hO1 : Hid (Grommet.Own w wr (boxP G 26 #[.int .i64 1, .int .i64 2, .int .i64 2] :: devP d (doAll S D) :: runE R d 1 2 2 264 [] :: T)) := Lib.hid hO1
      have HLd1 := Lib.hid (HLd.out wr d _ _ hO1.out)
      have HL0 := Lib.hid (fun (wx : World) (hO : Grommet.Own w wx (boxP G 26 #[.int .i64 1, .int .i64 2, .int .i64 2] :: devP d (doAll S D) :: runE R d 1 2 2 264 [] :: T)) => HL.out wx d R (doAll S D) [] T hO)
      have HP0 := Lib.hid (fun (wx : World) (hO : Grommet.Own w wx (boxP G 26 #[.int .i64 1, .int .i64 2, .int .i64 2] :: devP d (doAll S D) :: runE R d 1 2 2 264 [] :: T)) => HPh.out wx d R (doAll S D) T hO)
      clear hO HSt HL HPh HLd
      go_wp2_with fail
      refine HLt.out.mono ?_
      rintro e w7 ⟨rfl, hw7⟩
      obtain rfl := hw7.symm
      clear HLt
      go_wp2_with fail
      refine HLd1.out.mono ?_
      rintro e w8 ⟨rfl, hO8⟩
      have HL8 := Lib.hid (HL0.out w8 hO8)
      have HLo8 := Lib.hid (HLo.out w8 d _ _ hO8)
      clear HLd1 HL0 HLo hO8 hO1
      go_wp2_with fail
      refine HL8.out.mono ?_
      rintro e w9 ⟨rfl, hw9⟩
      obtain rfl := hw9.symm
      clear HL8
      go_wp2_with fail
      refine HLo8.out.mono ?_
      rintro e w10 ⟨rfl, hO10⟩
      have HP10 := Lib.hid (HP0.out w10 hO10)
      have hgr := Lib.hid hO10.grown
      clear HLo8 HP0 hO10
      go_wp2_with fail
      refine HP10.out.mono ?_
      rintro e w11 ⟨rfl, hw11⟩
      obtain rfl := hw11.symm
      go_wp2
      go_ret
      exact ⟨rfl, hgr.out⟩
end Go.Proofs.YtpdofdloclmbdaaGreat
end
section
/- All that CommitPlays' walk needs. -/
end
