/- LockApart, walked. -/
import Derived.Test.YtclicjdgkcnihaaLocK
import Derived.Test.YtclicjdgkcnihaaLocD
import Derived.Test.YtclicjdgkcnihaaLocE
import Derived.Test.YtclicjdgkcnihaaLocF
import Derived.Test.YtclicjdgkcnihaaWorks
namespace Go.Proofs.Ytclicjdgkcnihaa.lockApart
open Go.RowKit Go.Grommet
def WorksOk (w : World) (e : Ending) (w' : World) : Prop := e = .returned (.bool true) ∧ w.grownBy w' none

theorem walk_far (a0 : Option Addr) (n c0 : Nat) (g0 : Int) (w : World) (h : 100 < n) : Calls Try.prog 6 #[.slice a0 n c0, .int .u8 g0] w (WorksOk w) := by
  have g1 : (100 : Int) < (n : Int) := by omega
  go_enter Try.func6, Try.ntmps6
  go_wp2_with fail
  refine (works_ev _).mono ?_
  rintro e w5 ⟨rfl, hg⟩
  go_wp2
  go_ret
  exact ⟨rfl, hg⟩

set_option maxRecDepth 100000 in
set_option maxHeartbeats 8000000 in
theorem walk_few (a0 : Option Addr) (n c0 : Nat) (bs : List UInt8) (g0 : Nat) (w : World) (hn : ¬ 100 < n) (hbl : bs.length = n) (hB : At w a0 (bs.map bv)) (hg : g0 < 256) :
    Calls Try.prog 6 #[.slice a0 n c0, .int .u8 (g0 : Int)] w (WorksOk w) := by
  obtain ⟨i0, hi0, hz0, hz1, hz2⟩ := info_parts infoInt
  have gt : ¬ (100 : Int) < (n : Int) := by omega
  have HB := Lib.hid hB
  have Hbl := Lib.hid hbl
  have HN := Lib.hid (NewH w w [] (Own.nil w))
  obtain ⟨G, HG⟩ : ∃ G, Hid (G = g0 % 4) := ⟨_, Lib.hid rfl⟩
  have hG4 : G < 4 := by rw [HG.out]; omega
  have eG : Int.tmod (g0 : Int) 4 = (G : Int) := by rw [Int.tmod_eq_emod_of_nonneg (by omega), HG.out]; omega
  have eG2 : (g0 : Int) % 4 = (G : Int) := by rw [HG.out]; omega
  have wg : IntKind.i64.wrap (g0 : Int) = (g0 : Int) := IntWalk.i64_in _ ⟨by omega, by omega⟩
  have wG : IntKind.i64.wrap (G : Int) = (G : Int) := IntWalk.i64_in _ ⟨by omega, by omega⟩
  have G0 : (0 : Int) ≤ (G : Int) := by omega
  have HG4 := Lib.hid hG4
  have Hg := Lib.hid (And.intro eG (And.intro eG2 (And.intro wg wG)))
  clear hB hbl hg hG4 eG eG2 wg wG
  go_enter Try.func6, Try.ntmps6
  go_wp2_with fail
  refine HN.out.mono ?_
  rintro e w1 ⟨X, rfl, hO⟩
  have hO2 := hO.addBox 42 #[.slice none 0 0, .slice none 0 0, .slice none 0 0, .slice none 0 0]
  obtain ⟨H, hH⟩ : ∃ H, w1.heap.size = H := ⟨_, rfl⟩
  rw [hH] at hO2
  have hO3 := Lib.hid (own_begun hO2)
  clear hO hO2 HN
  go_upto_region 7 with fail
  generalize World.alloc _ _ = w2 at hO3 ⊢
  clear hH w1
  go_wp2_with fail
  go_loopw [8] (fun s wr => ∃ (i : Nat) (f : Nat → Int) (ad : Nat → Option Addr) (cp : Nat → Nat), i ≤ n ∧ s = .int .i64 (i : Int) ∧ Hid (FairT f) ∧ Hid (Grommet.Own w wr (LS X H f (fun b => heldL f b 70) ad cp))) (fun s _ => n - (intOf s).toNat)
  case atStart => exact ⟨0, _, _, _, Nat.zero_le _, rfl, Lib.hid fairT_nobody, hO3⟩
  case round =>
    clear hO3
    obtain ⟨i, f, ad, cp, hi, rfl, Hf, hO⟩ := hrel
    have k0 : (0 : Int) ≤ (i : Int) := by omega
    by_cases hlt : i < n
    · have hlt' : (i : Int) < (n : Int) := by omega
      have wi : IntKind.i64.wrap ((i : Int) + 1) = (i : Int) + 1 := IntWalk.i64_in _ ⟨by omega, by omega⟩
      have hb : (bs.map bv)[i]? = some (.int .u8 ((bs.getD i 0).toNat : Int)) := by
        rw [List.getElem?_map, List.getElem?_eq_getElem (by rw [Hbl.out]; exact hlt), List.getD_eq_getElem?_getD, List.getElem?_eq_getElem (by rw [Hbl.out]; exact hlt)]; rfl
      obtain ⟨g2, o2, hgd, hcell⟩ := HB.out i _ hb
      subst hgd
      have hcell := hO.out.grown.cell hcell (by simp)
      have hm256 : (bs.getD i 0).toNat < 256 := (bs.getD i 0).toNat_lt
      generalize (bs.getD i 0).toNat = m at hcell hm256
      obtain ⟨k, Hk⟩ : ∃ k, Hid (k = m % 70) := ⟨_, Lib.hid rfl⟩
      have hk70 : k < 70 := by rw [Hk.out]; omega
      have wm : IntKind.i64.wrap (m : Int) = (m : Int) := IntWalk.i64_in _ ⟨by omega, by omega⟩
      have wk : IntKind.i64.wrap (k : Int) = (k : Int) := IntWalk.i64_in _ ⟨by omega, by omega⟩
      have e1 : (m : Int) % 70 = (k : Int) := by rw [Hk.out]; omega
      have e2 : Int.tmod (m : Int) 70 = (k : Int) := by rw [Int.tmod_eq_emod_of_nonneg (by omega)]; exact e1
      obtain ⟨a, Ha⟩ : ∃ a, Hid (a = k % 4) := ⟨_, Lib.hid rfl⟩
      have ha4 : a < 4 := by rw [Ha.out]; omega
      have wa : IntKind.i64.wrap (a : Int) = (a : Int) := IntWalk.i64_in _ ⟨by omega, by omega⟩
      have e3 : (k : Int) % 4 = (a : Int) := by rw [Ha.out]; omega
      have e4 : Int.tmod (k : Int) 4 = (a : Int) := by rw [Int.tmod_eq_emod_of_nonneg (by omega)]; exact e3
      have a0' : (0 : Int) ≤ (a : Int) := by omega
      have a4' : (a : Int) < 4 := by omega
      have Hin : Hid (i + 1 ≤ n) := Lib.hid hlt
      have Ha4 := Lib.hid ha4
      have Hk70 := Lib.hid hk70
      obtain ⟨d, Hd⟩ : ∃ d, ad a = d := ⟨_, rfl⟩
      obtain ⟨c, Hc⟩ : ∃ c, cp a = c := ⟨_, rfl⟩
      have Had := Lib.hid Hd
      have Hcp := Lib.hid Hc
      have hrle := heldL_le f a 70
      obtain ⟨q, hq⟩ : ∃ q, (heldL f a 70).length = q := ⟨_, rfl⟩
      rw [hq] at hrle
      have Hn := Lib.hid hq
      have Hnle := Lib.hid hrle
      clear hb hlt hm256 Hk hk70 ha4 hi
      by_cases hle : (k : Int) ≤ highV (heldL f a 70)
      · have HW := Lib.hid (WantNo 0 X 4 a k f w wr _ hO.out rfl Ha4.out Hk70.out hle)
        unfold tptr at HW
        obtain ⟨p, hp⟩ : ∃ p, q = p + 1 := by
          cases q with
          | zero => rw [highV_nil hq] at hle; omega
          | succ p => exact ⟨p, rfl⟩
        have hv := highV_some (L := heldL f a 70) (p := p) (by rw [hq, hp])
        rw [hv] at hle
        have hcv : ((heldL f a 70).map iv)[p]? = some (.int .i64 (((heldL f a 70).getD p 0 : Nat) : Int)) := by
          rw [List.getElem?_map, List.getElem?_eq_getElem (by omega), List.getD_eq_getElem?_getD, List.getElem?_eq_getElem (by omega)]; rfl
        generalize (heldL f a 70).getD p 0 = v at hcv hle
        have hcv := Lib.hid hcv
        have q0 : (0 : Int) < (q : Int) := by omega
        have q1 : IntKind.i64.wrap ((q : Int) - 1) = (p : Int) := by rw [IntWalk.i64_in _ ⟨by omega, by omega⟩]; omega
        have q2 : (q : Int) - 1 = (p : Int) := by omega
        have q3 : (p : Int) < (q : Int) := by omega
        have q4 : (0 : Int) ≤ (p : Int) := by omega
        have q5 : IntKind.i64.wrap (p : Int) = (p : Int) := IntWalk.i64_in _ ⟨by omega, by omega⟩
        clear hv hq hp Hd Hc hrle hO
        go_wp2_with fail
        refine HW.out.mono ?_
        rintro e w2 ⟨rfl, hO⟩
        have c1 := own_arr hO rfl Ha4.out
        obtain ⟨b, hbe, c2, _, _⟩ := Own.cell hO (2 + a) (LS_row X H f _ ad cp Ha4.out) p _ hcv.out
        rw [Had.out, Hcp.out, Hn.out] at c1
        rw [Had.out] at hbe
        subst hbe
        have hO := Lib.hid hO
        clear HW hcv
        go_wp2
        go_roundw
        case rel => exact ⟨i + 1, f, ad, cp, Hin.out, by go_num, Hf, hO⟩
        case measure => have := Hin.out; simp [intOf]; omega
      · have Hhl := Lib.hid (Int.not_le.1 hle)
        have Hfk := Lib.hid (Hf.out.free Hk70.out (by rw [← Ha.out]; exact Hhl.out))
        have HW := Lib.hid (WantYes 0 X 4 a k f w wr _ hO.out rfl Ha4.out Hk70.out Hhl.out Hfk.out)
        unfold tptr at HW
        cases q with
        | zero =>
          clear hle hq Hd Hc hrle hO
          go_wp2_with fail
          refine HW.out.mono ?_
          rintro e w2 ⟨rfl, hO2⟩
          have hO2 : Hid (Grommet.Own w w2 (LS X H (seth f k (a : Int)) (fun b => heldL f b 70) ad cp)) := Lib.hid hO2
          have c1 := own_arr hO2.out rfl Ha4.out
          rw [Had.out, Hcp.out, Hn.out] at c1
          clear HW
          have HH9 := Lib.hid (fun wx (hO : Grommet.Own w wx (LS X H (seth f k (a : Int)) (fun b => heldL f b 70) ad cp)) => Holds_yes wx X 4 (seth f k (a : Int)) (hO.box 0 rfl) a k Ha4.out Hk70.out)
          rw [show (seth f k (a : Int) k == (a : Int)) = true by unfold seth; simp] at HH9
          unfold tptr at HH9
          have HH := Lib.hid (HH9.out w2 hO2.out)
          clear HH9
          go_wp2_with fail
          refine HH.out.mono ?_
          rintro e w3 ⟨rfl, rfl⟩
          clear HH
          have hrow := Grommet.Own.row hO2.out (2 + a) (LS_row X H _ _ ad cp Ha4.out)
          unfold sv at hrow
          rw [Had.out, Hcp.out, Hn.out] at hrow
          have hrow := Lib.hid hrow
          go_wp2_with (at_builtin; refine wpList_append_blk _ rfl _ _ 30 rfl 0 3 i0 (.int .i64 0) 1 8 Try.underlying30 hi0 hz0 hz1 hz2 rfl (by decide) _ 0 ((heldL f a 70).map iv) rfl (World.ownsRow.alloc hrow.out _) ⟨w3.heap.size, 0, none⟩ 1 1 [.int .i64 (k : Int)] rfl rfl (at_of_row (heap_alloc_new w3 _)).some ?a1x ?a2x ?a3x (Nat.zero_le _) ?_)
          case a1x => simp [Value.oneCell']
          case a2x => unfold maxLen; have := Hnle.out; omega
          case a3x => have := Hnle.out; omega
          intro ad5 cap5 w5 hrow5 hg5 hnew5
          have hO5 := own_append (Grommet.Own.quiet hO2.out (World.grownBy_alloc w3 (.cells #[.int .i64 (k : Int)] 3) none)) (2 + a) (by have := LS_row X H (seth f k (a : Int)) (fun b => heldL f b 70) ad cp Ha4.out; unfold rowW sv at this; rw [Had.out, Hcp.out, Hn.out] at this; exact this) hrow5 hg5 (fun g hg => by have := hnew5 g hg; rw [World.size_alloc]; exact this)
          have z1 := own_thaw (a := a) (H := H) (T := 42) (cs := arrC (fun b => heldL f b 70) ad cp) hO5 (by rw [List.getElem?_set_ne (by omega)]; rfl)
          have z2 := own_arr (hl := fun b => heldL f b 70) (ad := ad) (cp := cp) hO5 (by rw [List.getElem?_set_ne (by omega)]; rfl) Ha4.out
          have hO6 := Lib.hid (own_took Ha4.out Hk70.out (Hfk.out) Hhl.out 0 ad5 cap5 Hn.out hO5)
          clear hrow hrow5 hg5 hnew5 hO2 hO5
          go_wp2
          go_roundw
          case rel => exact ⟨i + 1, seth f k (a : Int), put' ad a ad5, put' cp a cap5, Hin.out, by go_num, Lib.hid (by rw [Ha.out]; exact Hf.out.take k), hO6⟩
          case measure => have := Hin.out; simp [intOf]; omega
        | succ p =>
          have hv := highV_some (L := heldL f a 70) (p := p) hq
          rw [hv] at hle
          have hcv : ((heldL f a 70).map iv)[p]? = some (.int .i64 (((heldL f a 70).getD p 0 : Nat) : Int)) := by
            rw [List.getElem?_map, List.getElem?_eq_getElem (by omega), List.getD_eq_getElem?_getD, List.getElem?_eq_getElem (by omega)]; rfl
          generalize (heldL f a 70).getD p 0 = v at hcv hle
          have hcv := Lib.hid hcv
          obtain ⟨q, hp⟩ : ∃ q, p + 1 = q := ⟨_, rfl⟩
          rw [hp] at Hn Hnle hrle
          have q0 : (0 : Int) < (q : Int) := by omega
          have q1 : IntKind.i64.wrap ((q : Int) - 1) = (p : Int) := by rw [IntWalk.i64_in _ ⟨by omega, by omega⟩]; omega
          have q2 : (q : Int) - 1 = (p : Int) := by omega
          have q3 : (p : Int) < (q : Int) := by omega
          have q4 : (0 : Int) ≤ (p : Int) := by omega
          have q5 : IntKind.i64.wrap (p : Int) = (p : Int) := IntWalk.i64_in _ ⟨by omega, by omega⟩
          clear hv hq hp Hd Hc hrle hO
          go_wp2_with fail
          refine HW.out.mono ?_
          rintro e w2 ⟨rfl, hO2⟩
          have hO2 : Hid (Grommet.Own w w2 (LS X H (seth f k (a : Int)) (fun b => heldL f b 70) ad cp)) := Lib.hid hO2
          have c1 := own_arr hO2.out rfl Ha4.out
          obtain ⟨b, hbe, c2, _, _⟩ := Own.cell hO2.out (2 + a) (LS_row X H _ _ ad cp Ha4.out) p _ hcv.out
          rw [Had.out, Hcp.out, Hn.out] at c1
          rw [Had.out] at hbe
          subst hbe
          clear HW hcv
          have HH9 := Lib.hid (fun wx (hO : Grommet.Own w wx (LS X H (seth f k (a : Int)) (fun b => heldL f b 70) ad cp)) => Holds_yes wx X 4 (seth f k (a : Int)) (hO.box 0 rfl) a k Ha4.out Hk70.out)
          rw [show (seth f k (a : Int) k == (a : Int)) = true by unfold seth; simp] at HH9
          unfold tptr at HH9
          have HH := Lib.hid (HH9.out w2 hO2.out)
          clear HH9
          go_wp2_with fail
          refine HH.out.mono ?_
          rintro e w3 ⟨rfl, rfl⟩
          clear HH
          have hrow := Grommet.Own.row hO2.out (2 + a) (LS_row X H _ _ ad cp Ha4.out)
          unfold sv at hrow
          rw [Had.out, Hcp.out, Hn.out] at hrow
          have hrow := Lib.hid hrow
          go_wp2_with (at_builtin; refine wpList_append_blk _ rfl _ _ 30 rfl 0 3 i0 (.int .i64 0) 1 8 Try.underlying30 hi0 hz0 hz1 hz2 rfl (by decide) _ q ((heldL f a 70).map iv) rfl (World.ownsRow.alloc hrow.out _) ⟨w3.heap.size, 0, none⟩ 1 1 [.int .i64 (k : Int)] rfl rfl (at_of_row (heap_alloc_new w3 _)).some ?a1y ?a2y ?a3y (Nat.zero_le _) ?_)
          case a1y => simp [Value.oneCell']
          case a2y => unfold maxLen; have := Hnle.out; omega
          case a3y => have := Hnle.out; omega
          intro ad5 cap5 w5 hrow5 hg5 hnew5
          have hO5 := own_append (Grommet.Own.quiet hO2.out (World.grownBy_alloc w3 (.cells #[.int .i64 (k : Int)] 3) none)) (2 + a) (by have := LS_row X H (seth f k (a : Int)) (fun b => heldL f b 70) ad cp Ha4.out; unfold rowW sv at this; rw [Had.out, Hcp.out, Hn.out] at this; exact this) hrow5 hg5 (fun g hg => by have := hnew5 g hg; rw [World.size_alloc]; exact this)
          have z1 := own_thaw (a := a) (H := H) (T := 42) (cs := arrC (fun b => heldL f b 70) ad cp) hO5 (by rw [List.getElem?_set_ne (by omega)]; rfl)
          have z2 := own_arr (hl := fun b => heldL f b 70) (ad := ad) (cp := cp) hO5 (by rw [List.getElem?_set_ne (by omega)]; rfl) Ha4.out
          have hO6 := Lib.hid (own_took Ha4.out Hk70.out (Hfk.out) Hhl.out q ad5 cap5 Hn.out hO5)
          clear hrow hrow5 hg5 hnew5 hO2 hO5
          go_wp2
          go_roundw
          case rel => exact ⟨i + 1, seth f k (a : Int), put' ad a ad5, put' cp a cap5, Hin.out, by go_num, Lib.hid (by rw [Ha.out]; exact Hf.out.take k), hO6⟩
          case measure => have := Hin.out; simp [intOf]; omega
    · have hlt' : ¬ (i : Int) < (n : Int) := by omega
      obtain ⟨eG, eG2, wg, wG⟩ := Hg.out
      clear hi hlt HB Hbl Hf
      go_wp2_with fail
      go_loopw [15] (fun s wr => ∃ j : Nat, j ≤ 4 ∧ s = .int .i64 (j : Int) ∧ Hid (Grommet.Own w wr (LS X H f (fun b => heldL f b 70) ad cp))) (fun s _ => 4 - (intOf s).toNat)
      case atStart => exact ⟨0, Nat.zero_le _, rfl, hO⟩
      case round =>
        clear hO
        obtain ⟨j, hj, rfl, hO⟩ := hrel
        have j0 : (0 : Int) ≤ (j : Int) := by omega
        by_cases hlt : j < 4
        · have j4 : (j : Int) < 4 := by omega
          have wj : IntKind.i64.wrap ((j : Int) + 1) = (j : Int) + 1 := IntWalk.i64_in _ ⟨by omega, by omega⟩
          have wj2 : IntKind.i64.wrap (j : Int) = (j : Int) := IntWalk.i64_in _ ⟨by omega, by omega⟩
          have Hj4 := Lib.hid hlt
          have hO1 := Lib.hid (hO.out.quiet (grown_drew (World.grownBy.refl _ none)))
          have HH := Lib.hid (HeldH 0 X 4 j f w _ _ hO1.out rfl hlt)
          have c1 := own_arr hO1.out rfl hlt
          have HS := Lib.hid (fun d9 c9 wx (hO : Grommet.Own w wx (LS X H f (fun b => heldL f b 70) ad cp ++ [rowP 3 1 (.slice d9 (heldL f j 70).length c9) (heldL f j 70).length ((heldL f j 70).map iv)])) => Same_yes 6 (2 + j) (heldL f j 70) d9 (ad j) c9 (cp j) w wx _ hO (by have := heldL_le f j 70; omega) rfl (by rw [List.getElem?_append_left (by rw [LS_len]; have := Hj4.out; omega)]; exact LS_row X H f _ ad cp Hj4.out))
          have HC := Lib.hid (fun d9 c9 wx (hO : Grommet.Own w wx (LS X H f (fun b => heldL f b 70) ad cp ++ [rowP 3 1 (.slice d9 (heldL f j 70).length c9) (heldL f j 70).length ((heldL f j 70).map iv)])) => own_arr hO rfl Hj4.out)
          obtain ⟨l, hl⟩ : ∃ l, (heldL f j 70).length = l := ⟨_, rfl⟩
          obtain ⟨d, hd⟩ : ∃ d, ad j = d := ⟨_, rfl⟩
          obtain ⟨c, hc⟩ : ∃ c, cp j = c := ⟨_, rfl⟩
          rw [hl] at HH HS HC c1
          rw [hd] at HS HC c1
          rw [hc] at HS HC c1
          unfold tptr at HH
          clear hl hd hc hlt hj
          go_upto_region 24 with fail
          refine wp_region_held_drew (S := fun w' => w'.cell? ⟨H, j, none⟩ = some (.slice d l c)) (by kernel_rfl) (c1) (fun hS => ?_)
          refine wpAnyH_take (i := 0) (oi := { dst := some 102, op := Op.move (Operand.tmp 5), type := 24, pos := "more.go:82", after := #[], guard := none }) (v := ?vla6r24o0) rfl (by kernel_rfl) (by kernel_rfl) (by kernel_rfl) (fun _ _ _ h => h) (Or.inl ⟨by rfl, ?hla6r24o0⟩) hS ?_
          case hla6r24o0 => (intro wx hx; skip; go_simp; (try with_reducible rfl))
          try simp only [Act.put, List.setIfInBounds_toArray, List.set_cons_zero, List.set_cons_succ]
          refine wpAnyH_take (i := 1) (oi := { dst := some 103, op := Op.move (Operand.tmp 15), type := 3, pos := "more.go:82", after := #[], guard := none }) (v := ?vla6r24o1) rfl (by kernel_rfl) (by kernel_rfl) (by kernel_rfl) (fun _ _ _ h => h) (Or.inl ⟨by rfl, ?hla6r24o1⟩) hS ?_
          case hla6r24o1 => (intro wx hx; skip; go_simp; (try with_reducible rfl))
          try simp only [Act.put, List.setIfInBounds_toArray, List.set_cons_zero, List.set_cons_succ]
          refine wpAnyH_take (i := 3) (oi := { dst := some 105, op := Op.move (Operand.tmp 15), type := 3, pos := "more.go:82", after := #[], guard := none }) (v := ?vla6r24o3) rfl (by kernel_rfl) (by kernel_rfl) (by kernel_rfl) (fun _ _ _ h => h) (Or.inl ⟨by rfl, ?hla6r24o3⟩) hS ?_
          case hla6r24o3 => (intro wx hx; skip; go_simp; (try with_reducible rfl))
          try simp only [Act.put, List.setIfInBounds_toArray, List.set_cons_zero, List.set_cons_succ]
          refine wpAnyH_take (i := 4) (oi := { dst := some 106, op := Op.indexAddr 42 (Operand.tmp 7) (Operand.tmp 105), type := 0, pos := "more.go:82", after := #[{ on := 3, ground := Ground.data }], guard := none }) (v := ?vla6r24o4) rfl (by kernel_rfl) (by kernel_rfl) (by kernel_rfl) (fun _ _ _ h => h) (Or.inl ⟨by rfl, ?hla6r24o4⟩) hS ?_
          case hla6r24o4 => (intro wx hx; skip; go_simp; (try with_reducible rfl))
          try simp only [Act.put, List.setIfInBounds_toArray, List.set_cons_zero, List.set_cons_succ]
          refine wpAnyH_take (i := 5) (oi := { dst := some 107, op := Op.load 30 (Operand.tmp 106), type := 30, pos := "more.go:82", after := #[{ on := 4, ground := Ground.data }], guard := none }) (v := ?vla6r24o5) rfl (by kernel_rfl) (by kernel_rfl) (by kernel_rfl) (fun _ _ _ h => h) (Or.inl ⟨by rfl, ?hla6r24o5⟩) hS ?_
          case hla6r24o5 => (intro wx hx; have hcx := hx; go_simp; (try with_reducible rfl))
          try simp only [Act.put, List.setIfInBounds_toArray, List.set_cons_zero, List.set_cons_succ]
          refine wpAnyH_ready (rs := [2]) (by kernel_rfl) (by simp) ?_
          refine AllReadyH.cons (o := { dst := some 104, op := Op.call { callee := Callee.value (Operand.func 13), args := #[Operand.tmp 102, Operand.tmp 103], argTypes := #[24, 3] }, type := 30, pos := "more.go:82", after := #[{ on := 0, ground := Ground.data }, { on := 1, ground := Ground.data }], guard := none }) rfl (fun K hK => ?_) AllReadyH.nil
          go_simp
          refine HH.out.mono ?_
          rintro e wA ⟨d9, c9, rfl, hO9⟩
          have hO2 := Lib.hid hO9
          have hS1 := HC.out d9 c9 wA hO9
          clear HH hO9
          refine hK.out _ _ ?hsla6r24o2 (fun hS => ?_)
          case hsla6r24o2 => (exact hS1)
          clear hK K
          try simp only [Act.put, List.setIfInBounds_toArray, List.set_cons_zero, List.set_cons_succ]
          refine wpAnyH_ready (rs := [6]) (by kernel_rfl) (by simp) ?_
          refine AllReadyH.cons (o := { dst := some 108, op := Op.call { callee := Callee.value (Operand.func 16), args := #[Operand.tmp 104, Operand.tmp 107], argTypes := #[30, 30] }, type := 4, pos := "more.go:82", after := #[{ on := 2, ground := Ground.data }, { on := 5, ground := Ground.data }, { on := 2, ground := Ground.chain }], guard := none }) rfl (fun K hK => ?_) AllReadyH.nil
          go_simp
          refine (HS.out d9 c9 _ hO2.out).mono ?_
          rintro e wB ⟨rfl, hO9⟩
          have hO3 := Lib.hid hO9
          have hS1 := HC.out d9 c9 wB hO9
          clear HS hO2 hO9
          refine hK.out _ _ ?hsla6r24o6 (fun hS => ?_)
          case hsla6r24o6 => (exact hS1)
          clear hK K
          try simp only [Act.put, List.setIfInBounds_toArray, List.set_cons_zero, List.set_cons_succ]
          refine wpAnyH_take (i := 7) (oi := { dst := some 109, op := Op.unOp UnOp.not 4 (Operand.tmp 108), type := 4, pos := "more.go:82", after := #[{ on := 6, ground := Ground.data }], guard := none }) (v := ?vla6r24o7) rfl (by kernel_rfl) (by kernel_rfl) (by kernel_rfl) (fun _ _ _ h => h) (Or.inl ⟨by rfl, ?hla6r24o7⟩) hS ?_
          case hla6r24o7 => (intro wx hx; skip; go_simp; (try with_reducible rfl))
          try simp only [Act.put, List.setIfInBounds_toArray, List.set_cons_zero, List.set_cons_succ]
          refine wpAnyH_done (by kernel_rfl) ?_ _
          have hO4 := Lib.hid (hO3.out.less)
          clear hO3 HC
          go_wp2
          go_roundw
          case rel => exact ⟨j + 1, Hj4.out, by go_num, hO4⟩
          case measure => have := Hj4.out; simp [intOf]; omega
        · have hlt' : ¬ (j : Int) < 4 := by omega
          have HGi := Lib.hid (GiveH 0 X 4 G f w wr _ hO.out rfl HG4.out)
          unfold tptr at HGi
          clear hj hlt hO
          go_wp2_with fail
          refine HGi.out.mono ?_
          rintro e w3 ⟨rfl, hO⟩
          have hO : Hid (Grommet.Own w w3 (LS X H (gh f G 70) (fun b => heldL f b 70) ad cp)) := Lib.hid hO
          clear HGi
          go_wp2_with fail
          go_loopw [16] (fun s wr => ∃ j : Nat, j ≤ 4 ∧ s = .int .i64 (j : Int) ∧ Hid (Grommet.Own w wr (LS X H (gh f G 70) (fun b => heldL f b 70) ad cp))) (fun s _ => 4 - (intOf s).toNat)
          case atStart => exact ⟨0, Nat.zero_le _, rfl, hO⟩
          case round =>
            clear hO
            obtain ⟨j, hj, rfl, hO⟩ := hrel
            have j0 : (0 : Int) ≤ (j : Int) := by omega
            by_cases hlt : j < 4
            · have j4 : (j : Int) < 4 := by omega
              have wj : IntKind.i64.wrap ((j : Int) + 1) = (j : Int) + 1 := IntWalk.i64_in _ ⟨by omega, by omega⟩
              have wj2 : IntKind.i64.wrap (j : Int) = (j : Int) := IntWalk.i64_in _ ⟨by omega, by omega⟩
              have Hj4 := Lib.hid hlt
              have hO1 := Lib.hid (hO.out.quiet (grown_drew (World.grownBy.refl _ none)))
              have HH := Lib.hid (HeldH 0 X 4 j (gh f G 70) w _ _ hO1.out rfl hlt)
              have c1 := own_arr hO1.out rfl hlt
              by_cases hjG : j = G
              · have hjG' : ((j : Int) == (G : Int)) = true := by rw [beq_iff_eq]; omega
                have hjN' : ((j : Int) != (G : Int)) = false := by rw [bne_eq_false_iff_eq]; omega
                have e0 := heldL_given f G
                rw [← hjG, show gh f j 70 = gh f G 70 by rw [hjG]] at e0
                rw [e0] at HH
                have HH : Hid (Calls _ _ _ _ fun e w' => ∃ d9 c9, e = .returned (.slice d9 0 c9) ∧ Grommet.Own w w' (LS X H (gh f G 70) (fun b => heldL f b 70) ad cp ++ [rowP 3 1 (.slice d9 0 c9) 0 []])) := HH
                obtain ⟨l, hl⟩ : ∃ l, (heldL f j 70).length = l := ⟨_, rfl⟩
                obtain ⟨d, hd⟩ : ∃ d, ad j = d := ⟨_, rfl⟩
                obtain ⟨c, hc⟩ : ∃ c, cp j = c := ⟨_, rfl⟩
                rw [hl, hd, hc] at c1
                have HC := Lib.hid (fun d9 c9 wx (hO : Grommet.Own w wx (LS X H (gh f G 70) (fun b => heldL f b 70) ad cp ++ [rowP 3 1 (.slice d9 0 c9) 0 []])) => (show wx.cell? ⟨H, j, none⟩ = some (.slice d l c) by have := own_arr hO rfl Hj4.out; rw [hl, hd, hc] at this; exact this))
                unfold tptr at HH
                clear e0 hl hd hc hlt hj hjG
                go_upto_region 31 with fail
                refine wp_region_held_drew (S := fun w' => w'.cell? ⟨H, j, none⟩ = some (.slice d l c)) (by kernel_rfl) (c1) (fun hS => ?_)
                refine wpAnyH_take (i := 0) (oi := { dst := some 119, op := Op.move (Operand.tmp 16), type := 3, pos := "more.go:90", after := #[], guard := none }) (v := ?vlb6r31o0) rfl (by kernel_rfl) (by kernel_rfl) (by kernel_rfl) (fun _ _ _ h => h) (Or.inl ⟨by rfl, ?hlb6r31o0⟩) hS ?_
                case hlb6r31o0 => (intro wx hx; skip; go_simp; (try with_reducible rfl))
                try simp only [Act.put, List.setIfInBounds_toArray, List.set_cons_zero, List.set_cons_succ]
                refine wpAnyH_take (i := 1) (oi := { dst := some 120, op := Op.move (Operand.tmp 14), type := 3, pos := "more.go:90", after := #[], guard := none }) (v := ?vlb6r31o1) rfl (by kernel_rfl) (by kernel_rfl) (by kernel_rfl) (fun _ _ _ h => h) (Or.inl ⟨by rfl, ?hlb6r31o1⟩) hS ?_
                case hlb6r31o1 => (intro wx hx; skip; go_simp; (try with_reducible rfl))
                try simp only [Act.put, List.setIfInBounds_toArray, List.set_cons_zero, List.set_cons_succ]
                refine wpAnyH_take (i := 2) (oi := { dst := some 121, op := Op.binOp BinOp.eql 3 (Operand.tmp 119) (Operand.tmp 120) 3, type := 4, pos := "more.go:90", after := #[{ on := 0, ground := Ground.data }, { on := 1, ground := Ground.data }], guard := none }) (v := ?vlb6r31o2) rfl (by kernel_rfl) (by kernel_rfl) (by kernel_rfl) (fun _ _ _ h => h) (Or.inl ⟨by rfl, ?hlb6r31o2⟩) hS ?_
                case hlb6r31o2 => (intro wx hx; skip; go_simp; (try with_reducible rfl))
                try simp only [Act.put, List.setIfInBounds_toArray, List.set_cons_zero, List.set_cons_succ]
                refine wpAnyH_take (i := 3) (oi := { dst := some 122, op := Op.move (Operand.tmp 121), type := 4, pos := "more.go:90", after := #[{ on := 2, ground := Ground.data }], guard := none }) (v := ?vlb6r31o3) rfl (by kernel_rfl) (by kernel_rfl) (by kernel_rfl) (fun _ _ _ h => h) (Or.inl ⟨by rfl, ?hlb6r31o3⟩) hS ?_
                case hlb6r31o3 => (intro wx hx; skip; go_simp; (try with_reducible rfl))
                try simp only [Act.put, List.setIfInBounds_toArray, List.set_cons_zero, List.set_cons_succ]
                refine wpAnyH_take (i := 4) (oi := { dst := some 123, op := Op.move (Operand.tmp 5), type := 24, pos := "more.go:90", after := #[{ on := 3, ground := Ground.guard }], guard := some (3, true) }) (v := ?vlb6r31o4) rfl (by kernel_rfl) (by kernel_rfl) (by kernel_rfl) (fun _ _ _ h => h) (Or.inl ⟨by rfl, ?hlb6r31o4⟩) hS ?_
                case hlb6r31o4 => (intro wx hx; skip; go_simp; (try with_reducible rfl))
                try simp only [Act.put, List.setIfInBounds_toArray, List.set_cons_zero, List.set_cons_succ]
                refine wpAnyH_take (i := 5) (oi := { dst := some 124, op := Op.move (Operand.tmp 16), type := 3, pos := "more.go:90", after := #[{ on := 3, ground := Ground.guard }], guard := some (3, true) }) (v := ?vlb6r31o5) rfl (by kernel_rfl) (by kernel_rfl) (by kernel_rfl) (fun _ _ _ h => h) (Or.inl ⟨by rfl, ?hlb6r31o5⟩) hS ?_
                case hlb6r31o5 => (intro wx hx; skip; go_simp; (try with_reducible rfl))
                try simp only [Act.put, List.setIfInBounds_toArray, List.set_cons_zero, List.set_cons_succ]
                refine wpAnyH_ready (rs := [6]) (by kernel_rfl) (by simp) ?_
                refine AllReadyH.cons (o := { dst := some 125, op := Op.call { callee := Callee.value (Operand.func 13), args := #[Operand.tmp 123, Operand.tmp 124], argTypes := #[24, 3] }, type := 30, pos := "more.go:90", after := #[{ on := 4, ground := Ground.data }, { on := 5, ground := Ground.data }, { on := 3, ground := Ground.chain }, { on := 3, ground := Ground.guard }], guard := some (3, true) }) rfl (fun K hK => ?_) AllReadyH.nil
                go_simp
                refine HH.out.mono ?_
                rintro e wA ⟨d9, c9, rfl, hO9⟩
                have hO2 := Lib.hid hO9
                have hS1 := HC.out d9 c9 wA hO9
                clear HH hO9
                refine hK.out _ _ ?hslb6r31o6 (fun hS => ?_)
                case hslb6r31o6 => (exact hS1)
                clear hK K
                try simp only [Act.put, List.setIfInBounds_toArray, List.set_cons_zero, List.set_cons_succ]
                refine wpAnyH_take (i := 7) (oi := { dst := some 126, op := Op.call { callee := Callee.builtin Builtin.len, args := #[Operand.tmp 125], argTypes := #[30] }, type := 3, pos := "more.go:90", after := #[{ on := 6, ground := Ground.data }, { on := 3, ground := Ground.guard }], guard := some (3, true) }) (v := ?vlb6r31o7) rfl (by kernel_rfl) (by kernel_rfl) (by kernel_rfl) (fun _ _ _ h => h) (Or.inl ⟨by rfl, ?hlb6r31o7⟩) hS ?_
                case hlb6r31o7 => (intro wx hx; skip; go_simp; (try with_reducible rfl))
                try simp only [Act.put, List.setIfInBounds_toArray, List.set_cons_zero, List.set_cons_succ]
                refine wpAnyH_take (i := 8) (oi := { dst := some 127, op := Op.binOp BinOp.gtr 3 (Operand.tmp 126) (Operand.const (Value.int IntKind.i64 0)) 3, type := 4, pos := "more.go:90", after := #[{ on := 7, ground := Ground.data }, { on := 3, ground := Ground.guard }], guard := some (3, true) }) (v := ?vlb6r31o8) rfl (by kernel_rfl) (by kernel_rfl) (by kernel_rfl) (fun _ _ _ h => h) (Or.inl ⟨by rfl, ?hlb6r31o8⟩) hS ?_
                case hlb6r31o8 => (intro wx hx; skip; go_simp; (try with_reducible rfl))
                try simp only [Act.put, List.setIfInBounds_toArray, List.set_cons_zero, List.set_cons_succ]
                refine wpAnyH_take (i := 9) (oi := { dst := some 128, op := Op.pick (Operand.tmp 122) (Operand.tmp 127) (Operand.const (Value.bool false)), type := 4, pos := "more.go:90", after := #[{ on := 3, ground := Ground.data }, { on := 8, ground := Ground.data }], guard := none }) (v := ?vlb6r31o9) rfl (by kernel_rfl) (by kernel_rfl) (by kernel_rfl) (fun _ _ _ h => h) (Or.inl ⟨by rfl, ?hlb6r31o9⟩) hS ?_
                case hlb6r31o9 => (intro wx hx; skip; go_simp; (try with_reducible rfl))
                try simp only [Act.put, List.setIfInBounds_toArray, List.set_cons_zero, List.set_cons_succ]
                refine wpAnyH_take (i := 10) (oi := { dst := some 129, op := Op.move (Operand.tmp 128), type := 4, pos := "more.go:90", after := #[{ on := 9, ground := Ground.data }, { on := 6, ground := Ground.chain }], guard := none }) (v := ?vlb6r31o10) rfl (by kernel_rfl) (by kernel_rfl) (by kernel_rfl) (fun _ _ _ h => h) (Or.inl ⟨by rfl, ?hlb6r31o10⟩) hS ?_
                case hlb6r31o10 => (intro wx hx; skip; go_simp; (try with_reducible rfl))
                try simp only [Act.put, List.setIfInBounds_toArray, List.set_cons_zero, List.set_cons_succ]
                refine wpAnyH_take (i := 11) (oi := { dst := some 130, op := Op.move (Operand.tmp 16), type := 3, pos := "more.go:90", after := #[{ on := 10, ground := Ground.guard }], guard := some (10, false) }) (v := ?vlb6r31o11) rfl (by kernel_rfl) (by kernel_rfl) (by kernel_rfl) (fun _ _ _ h => h) (Or.inl ⟨by rfl, ?hlb6r31o11⟩) hS ?_
                case hlb6r31o11 => (intro wx hx; skip; go_simp; (try with_reducible rfl))
                try simp only [Act.put, List.setIfInBounds_toArray, List.set_cons_zero, List.set_cons_succ]
                refine wpAnyH_take (i := 12) (oi := { dst := some 131, op := Op.move (Operand.tmp 14), type := 3, pos := "more.go:90", after := #[{ on := 10, ground := Ground.guard }], guard := some (10, false) }) (v := ?vlb6r31o12) rfl (by kernel_rfl) (by kernel_rfl) (by kernel_rfl) (fun _ _ _ h => h) (Or.inl ⟨by rfl, ?hlb6r31o12⟩) hS ?_
                case hlb6r31o12 => (intro wx hx; skip; go_simp; (try with_reducible rfl))
                try simp only [Act.put, List.setIfInBounds_toArray, List.set_cons_zero, List.set_cons_succ]
                refine wpAnyH_take (i := 13) (oi := { dst := some 132, op := Op.binOp BinOp.neq 3 (Operand.tmp 130) (Operand.tmp 131) 3, type := 4, pos := "more.go:90", after := #[{ on := 11, ground := Ground.data }, { on := 12, ground := Ground.data }, { on := 10, ground := Ground.guard }], guard := some (10, false) }) (v := ?vlb6r31o13) rfl (by kernel_rfl) (by kernel_rfl) (by kernel_rfl) (fun _ _ _ h => h) (Or.inl ⟨by rfl, ?hlb6r31o13⟩) hS ?_
                case hlb6r31o13 => (intro wx hx; skip; go_simp; (try with_reducible rfl))
                try simp only [Act.put, List.setIfInBounds_toArray, List.set_cons_zero, List.set_cons_succ]
                refine wpAnyH_take (i := 14) (oi := { dst := some 133, op := Op.move (Operand.tmp 132), type := 4, pos := "more.go:90", after := #[{ on := 13, ground := Ground.data }, { on := 10, ground := Ground.chain }, { on := 10, ground := Ground.guard }], guard := some (10, false) }) (v := ?vlb6r31o14) rfl (by kernel_rfl) (by kernel_rfl) (by kernel_rfl) (fun _ _ _ h => h) (Or.inl ⟨by rfl, ?hlb6r31o14⟩) hS ?_
                case hlb6r31o14 => (intro wx hx; skip; go_simp; (try with_reducible rfl))
                try simp only [Act.put, List.setIfInBounds_toArray, List.set_cons_zero, List.set_cons_succ]
                refine wpAnyH_take (i := 15) (oi := { dst := some 134, op := Op.move (Operand.tmp 5), type := 24, pos := "more.go:90", after := #[{ on := 14, ground := Ground.guard }], guard := some (14, true) }) (v := undef) rfl (by kernel_rfl) (by kernel_rfl) (by kernel_rfl) (fun _ _ _ h => h) (Or.inr ⟨by rfl, rfl⟩) hS ?_
                try simp only [Act.put, List.setIfInBounds_toArray, List.set_cons_zero, List.set_cons_succ]
                refine wpAnyH_take (i := 16) (oi := { dst := some 135, op := Op.move (Operand.tmp 16), type := 3, pos := "more.go:90", after := #[{ on := 14, ground := Ground.guard }], guard := some (14, true) }) (v := undef) rfl (by kernel_rfl) (by kernel_rfl) (by kernel_rfl) (fun _ _ _ h => h) (Or.inr ⟨by rfl, rfl⟩) hS ?_
                try simp only [Act.put, List.setIfInBounds_toArray, List.set_cons_zero, List.set_cons_succ]
                refine wpAnyH_take (i := 17) (oi := { dst := some 136, op := Op.call { callee := Callee.value (Operand.func 13), args := #[Operand.tmp 134, Operand.tmp 135], argTypes := #[24, 3] }, type := 30, pos := "more.go:90", after := #[{ on := 15, ground := Ground.data }, { on := 16, ground := Ground.data }, { on := 14, ground := Ground.chain }, { on := 14, ground := Ground.guard }], guard := some (14, true) }) (v := undef) rfl (by kernel_rfl) (by kernel_rfl) (by kernel_rfl) (fun _ _ _ h => h) (Or.inr ⟨by rfl, rfl⟩) hS ?_
                try simp only [Act.put, List.setIfInBounds_toArray, List.set_cons_zero, List.set_cons_succ]
                refine wpAnyH_take (i := 18) (oi := { dst := some 137, op := Op.move (Operand.tmp 16), type := 3, pos := "more.go:90", after := #[{ on := 14, ground := Ground.guard }], guard := some (14, true) }) (v := undef) rfl (by kernel_rfl) (by kernel_rfl) (by kernel_rfl) (fun _ _ _ h => h) (Or.inr ⟨by rfl, rfl⟩) hS ?_
                try simp only [Act.put, List.setIfInBounds_toArray, List.set_cons_zero, List.set_cons_succ]
                refine wpAnyH_take (i := 19) (oi := { dst := some 138, op := Op.indexAddr 42 (Operand.tmp 7) (Operand.tmp 137), type := 0, pos := "more.go:90", after := #[{ on := 18, ground := Ground.data }, { on := 14, ground := Ground.guard }], guard := some (14, true) }) (v := undef) rfl (by kernel_rfl) (by kernel_rfl) (by kernel_rfl) (fun _ _ _ h => h) (Or.inr ⟨by rfl, rfl⟩) hS ?_
                try simp only [Act.put, List.setIfInBounds_toArray, List.set_cons_zero, List.set_cons_succ]
                refine wpAnyH_take (i := 20) (oi := { dst := some 139, op := Op.load 30 (Operand.tmp 138), type := 30, pos := "more.go:90", after := #[{ on := 19, ground := Ground.data }, { on := 14, ground := Ground.guard }], guard := some (14, true) }) (v := undef) rfl (by kernel_rfl) (by kernel_rfl) (by kernel_rfl) (fun _ _ _ h => h) (Or.inr ⟨by rfl, rfl⟩) hS ?_
                try simp only [Act.put, List.setIfInBounds_toArray, List.set_cons_zero, List.set_cons_succ]
                refine wpAnyH_take (i := 21) (oi := { dst := some 140, op := Op.call { callee := Callee.value (Operand.func 16), args := #[Operand.tmp 136, Operand.tmp 139], argTypes := #[30, 30] }, type := 4, pos := "more.go:90", after := #[{ on := 17, ground := Ground.data }, { on := 20, ground := Ground.data }, { on := 17, ground := Ground.chain }, { on := 14, ground := Ground.guard }], guard := some (14, true) }) (v := undef) rfl (by kernel_rfl) (by kernel_rfl) (by kernel_rfl) (fun _ _ _ h => h) (Or.inr ⟨by rfl, rfl⟩) hS ?_
                try simp only [Act.put, List.setIfInBounds_toArray, List.set_cons_zero, List.set_cons_succ]
                refine wpAnyH_take (i := 22) (oi := { dst := some 141, op := Op.unOp UnOp.not 4 (Operand.tmp 140), type := 4, pos := "more.go:90", after := #[{ on := 21, ground := Ground.data }, { on := 14, ground := Ground.guard }], guard := some (14, true) }) (v := undef) rfl (by kernel_rfl) (by kernel_rfl) (by kernel_rfl) (fun _ _ _ h => h) (Or.inr ⟨by rfl, rfl⟩) hS ?_
                try simp only [Act.put, List.setIfInBounds_toArray, List.set_cons_zero, List.set_cons_succ]
                refine wpAnyH_take (i := 23) (oi := { dst := some 142, op := Op.pick (Operand.tmp 133) (Operand.tmp 141) (Operand.const (Value.bool false)), type := 4, pos := "more.go:90", after := #[{ on := 14, ground := Ground.data }, { on := 22, ground := Ground.data }, { on := 10, ground := Ground.guard }], guard := some (10, false) }) (v := ?vlb6r31o23) rfl (by kernel_rfl) (by kernel_rfl) (by kernel_rfl) (fun _ _ _ h => h) (Or.inl ⟨by rfl, ?hlb6r31o23⟩) hS ?_
                case hlb6r31o23 => (intro wx hx; skip; go_simp; (try with_reducible rfl))
                try simp only [Act.put, List.setIfInBounds_toArray, List.set_cons_zero, List.set_cons_succ]
                refine wpAnyH_take (i := 24) (oi := { dst := some 143, op := Op.pick (Operand.tmp 129) (Operand.const (Value.bool true)) (Operand.tmp 142), type := 4, pos := "more.go:90", after := #[{ on := 10, ground := Ground.data }, { on := 23, ground := Ground.data }], guard := none }) (v := ?vlb6r31o24) rfl (by kernel_rfl) (by kernel_rfl) (by kernel_rfl) (fun _ _ _ h => h) (Or.inl ⟨by rfl, ?hlb6r31o24⟩) hS ?_
                case hlb6r31o24 => (intro wx hx; skip; go_simp; (try with_reducible rfl))
                try simp only [Act.put, List.setIfInBounds_toArray, List.set_cons_zero, List.set_cons_succ]
                refine wpAnyH_done (by kernel_rfl) ?_ _
                have hO4 := Lib.hid (hO2.out.less)
                clear hO2 HC
                go_wp2
                go_roundw
                case rel => exact ⟨j + 1, Hj4.out, by go_num, hO4⟩
                case measure => have := Hj4.out; simp [intOf]; omega
              · have hjG' : ((j : Int) == (G : Int)) = false := by rw [beq_eq_false_iff_ne]; omega
                have hjN' : ((j : Int) != (G : Int)) = true := by rw [bne_iff_ne]; omega
                rw [heldL_kept hjG] at HH
                have HS := Lib.hid (fun d9 c9 wx (hO : Grommet.Own w wx (LS X H (gh f G 70) (fun b => heldL f b 70) ad cp ++ [rowP 3 1 (.slice d9 (heldL f j 70).length c9) (heldL f j 70).length ((heldL f j 70).map iv)])) => Same_yes 6 (2 + j) (heldL f j 70) d9 (ad j) c9 (cp j) w wx _ hO (by have := heldL_le f j 70; omega) rfl (by rw [List.getElem?_append_left (by rw [LS_len]; have := Hj4.out; omega)]; exact LS_row X H _ _ ad cp Hj4.out))
                have HC := Lib.hid (fun d9 c9 wx (hO : Grommet.Own w wx (LS X H (gh f G 70) (fun b => heldL f b 70) ad cp ++ [rowP 3 1 (.slice d9 (heldL f j 70).length c9) (heldL f j 70).length ((heldL f j 70).map iv)])) => own_arr hO rfl Hj4.out)
                obtain ⟨l, hl⟩ : ∃ l, (heldL f j 70).length = l := ⟨_, rfl⟩
                obtain ⟨d, hd⟩ : ∃ d, ad j = d := ⟨_, rfl⟩
                obtain ⟨c, hc⟩ : ∃ c, cp j = c := ⟨_, rfl⟩
                rw [hl] at HH HS HC c1
                rw [hd] at HS HC c1
                rw [hc] at HS HC c1
                unfold tptr at HH
                clear hl hd hc hlt hj hjG
                go_upto_region 31 with fail
                refine wp_region_held_drew (S := fun w' => w'.cell? ⟨H, j, none⟩ = some (.slice d l c)) (by kernel_rfl) (c1) (fun hS => ?_)
                refine wpAnyH_take (i := 0) (oi := { dst := some 119, op := Op.move (Operand.tmp 16), type := 3, pos := "more.go:90", after := #[], guard := none }) (v := ?vlc6r31o0) rfl (by kernel_rfl) (by kernel_rfl) (by kernel_rfl) (fun _ _ _ h => h) (Or.inl ⟨by rfl, ?hlc6r31o0⟩) hS ?_
                case hlc6r31o0 => (intro wx hx; skip; go_simp; (try with_reducible rfl))
                try simp only [Act.put, List.setIfInBounds_toArray, List.set_cons_zero, List.set_cons_succ]
                refine wpAnyH_take (i := 1) (oi := { dst := some 120, op := Op.move (Operand.tmp 14), type := 3, pos := "more.go:90", after := #[], guard := none }) (v := ?vlc6r31o1) rfl (by kernel_rfl) (by kernel_rfl) (by kernel_rfl) (fun _ _ _ h => h) (Or.inl ⟨by rfl, ?hlc6r31o1⟩) hS ?_
                case hlc6r31o1 => (intro wx hx; skip; go_simp; (try with_reducible rfl))
                try simp only [Act.put, List.setIfInBounds_toArray, List.set_cons_zero, List.set_cons_succ]
                refine wpAnyH_take (i := 2) (oi := { dst := some 121, op := Op.binOp BinOp.eql 3 (Operand.tmp 119) (Operand.tmp 120) 3, type := 4, pos := "more.go:90", after := #[{ on := 0, ground := Ground.data }, { on := 1, ground := Ground.data }], guard := none }) (v := ?vlc6r31o2) rfl (by kernel_rfl) (by kernel_rfl) (by kernel_rfl) (fun _ _ _ h => h) (Or.inl ⟨by rfl, ?hlc6r31o2⟩) hS ?_
                case hlc6r31o2 => (intro wx hx; skip; go_simp; (try with_reducible rfl))
                try simp only [Act.put, List.setIfInBounds_toArray, List.set_cons_zero, List.set_cons_succ]
                refine wpAnyH_take (i := 3) (oi := { dst := some 122, op := Op.move (Operand.tmp 121), type := 4, pos := "more.go:90", after := #[{ on := 2, ground := Ground.data }], guard := none }) (v := ?vlc6r31o3) rfl (by kernel_rfl) (by kernel_rfl) (by kernel_rfl) (fun _ _ _ h => h) (Or.inl ⟨by rfl, ?hlc6r31o3⟩) hS ?_
                case hlc6r31o3 => (intro wx hx; skip; go_simp; (try with_reducible rfl))
                try simp only [Act.put, List.setIfInBounds_toArray, List.set_cons_zero, List.set_cons_succ]
                refine wpAnyH_take (i := 4) (oi := { dst := some 123, op := Op.move (Operand.tmp 5), type := 24, pos := "more.go:90", after := #[{ on := 3, ground := Ground.guard }], guard := some (3, true) }) (v := undef) rfl (by kernel_rfl) (by kernel_rfl) (by kernel_rfl) (fun _ _ _ h => h) (Or.inr ⟨by rfl, rfl⟩) hS ?_
                try simp only [Act.put, List.setIfInBounds_toArray, List.set_cons_zero, List.set_cons_succ]
                refine wpAnyH_take (i := 5) (oi := { dst := some 124, op := Op.move (Operand.tmp 16), type := 3, pos := "more.go:90", after := #[{ on := 3, ground := Ground.guard }], guard := some (3, true) }) (v := undef) rfl (by kernel_rfl) (by kernel_rfl) (by kernel_rfl) (fun _ _ _ h => h) (Or.inr ⟨by rfl, rfl⟩) hS ?_
                try simp only [Act.put, List.setIfInBounds_toArray, List.set_cons_zero, List.set_cons_succ]
                refine wpAnyH_take (i := 6) (oi := { dst := some 125, op := Op.call { callee := Callee.value (Operand.func 13), args := #[Operand.tmp 123, Operand.tmp 124], argTypes := #[24, 3] }, type := 30, pos := "more.go:90", after := #[{ on := 4, ground := Ground.data }, { on := 5, ground := Ground.data }, { on := 3, ground := Ground.chain }, { on := 3, ground := Ground.guard }], guard := some (3, true) }) (v := undef) rfl (by kernel_rfl) (by kernel_rfl) (by kernel_rfl) (fun _ _ _ h => h) (Or.inr ⟨by rfl, rfl⟩) hS ?_
                try simp only [Act.put, List.setIfInBounds_toArray, List.set_cons_zero, List.set_cons_succ]
                refine wpAnyH_take (i := 7) (oi := { dst := some 126, op := Op.call { callee := Callee.builtin Builtin.len, args := #[Operand.tmp 125], argTypes := #[30] }, type := 3, pos := "more.go:90", after := #[{ on := 6, ground := Ground.data }, { on := 3, ground := Ground.guard }], guard := some (3, true) }) (v := undef) rfl (by kernel_rfl) (by kernel_rfl) (by kernel_rfl) (fun _ _ _ h => h) (Or.inr ⟨by rfl, rfl⟩) hS ?_
                try simp only [Act.put, List.setIfInBounds_toArray, List.set_cons_zero, List.set_cons_succ]
                refine wpAnyH_take (i := 8) (oi := { dst := some 127, op := Op.binOp BinOp.gtr 3 (Operand.tmp 126) (Operand.const (Value.int IntKind.i64 0)) 3, type := 4, pos := "more.go:90", after := #[{ on := 7, ground := Ground.data }, { on := 3, ground := Ground.guard }], guard := some (3, true) }) (v := undef) rfl (by kernel_rfl) (by kernel_rfl) (by kernel_rfl) (fun _ _ _ h => h) (Or.inr ⟨by rfl, rfl⟩) hS ?_
                try simp only [Act.put, List.setIfInBounds_toArray, List.set_cons_zero, List.set_cons_succ]
                refine wpAnyH_take (i := 9) (oi := { dst := some 128, op := Op.pick (Operand.tmp 122) (Operand.tmp 127) (Operand.const (Value.bool false)), type := 4, pos := "more.go:90", after := #[{ on := 3, ground := Ground.data }, { on := 8, ground := Ground.data }], guard := none }) (v := ?vlc6r31o9) rfl (by kernel_rfl) (by kernel_rfl) (by kernel_rfl) (fun _ _ _ h => h) (Or.inl ⟨by rfl, ?hlc6r31o9⟩) hS ?_
                case hlc6r31o9 => (intro wx hx; skip; go_simp; (try with_reducible rfl))
                try simp only [Act.put, List.setIfInBounds_toArray, List.set_cons_zero, List.set_cons_succ]
                refine wpAnyH_take (i := 10) (oi := { dst := some 129, op := Op.move (Operand.tmp 128), type := 4, pos := "more.go:90", after := #[{ on := 9, ground := Ground.data }, { on := 6, ground := Ground.chain }], guard := none }) (v := ?vlc6r31o10) rfl (by kernel_rfl) (by kernel_rfl) (by kernel_rfl) (fun _ _ _ h => h) (Or.inl ⟨by rfl, ?hlc6r31o10⟩) hS ?_
                case hlc6r31o10 => (intro wx hx; skip; go_simp; (try with_reducible rfl))
                try simp only [Act.put, List.setIfInBounds_toArray, List.set_cons_zero, List.set_cons_succ]
                refine wpAnyH_take (i := 11) (oi := { dst := some 130, op := Op.move (Operand.tmp 16), type := 3, pos := "more.go:90", after := #[{ on := 10, ground := Ground.guard }], guard := some (10, false) }) (v := ?vlc6r31o11) rfl (by kernel_rfl) (by kernel_rfl) (by kernel_rfl) (fun _ _ _ h => h) (Or.inl ⟨by rfl, ?hlc6r31o11⟩) hS ?_
                case hlc6r31o11 => (intro wx hx; skip; go_simp; (try with_reducible rfl))
                try simp only [Act.put, List.setIfInBounds_toArray, List.set_cons_zero, List.set_cons_succ]
                refine wpAnyH_take (i := 12) (oi := { dst := some 131, op := Op.move (Operand.tmp 14), type := 3, pos := "more.go:90", after := #[{ on := 10, ground := Ground.guard }], guard := some (10, false) }) (v := ?vlc6r31o12) rfl (by kernel_rfl) (by kernel_rfl) (by kernel_rfl) (fun _ _ _ h => h) (Or.inl ⟨by rfl, ?hlc6r31o12⟩) hS ?_
                case hlc6r31o12 => (intro wx hx; skip; go_simp; (try with_reducible rfl))
                try simp only [Act.put, List.setIfInBounds_toArray, List.set_cons_zero, List.set_cons_succ]
                refine wpAnyH_take (i := 13) (oi := { dst := some 132, op := Op.binOp BinOp.neq 3 (Operand.tmp 130) (Operand.tmp 131) 3, type := 4, pos := "more.go:90", after := #[{ on := 11, ground := Ground.data }, { on := 12, ground := Ground.data }, { on := 10, ground := Ground.guard }], guard := some (10, false) }) (v := ?vlc6r31o13) rfl (by kernel_rfl) (by kernel_rfl) (by kernel_rfl) (fun _ _ _ h => h) (Or.inl ⟨by rfl, ?hlc6r31o13⟩) hS ?_
                case hlc6r31o13 => (intro wx hx; skip; go_simp; (try with_reducible rfl))
                try simp only [Act.put, List.setIfInBounds_toArray, List.set_cons_zero, List.set_cons_succ]
                refine wpAnyH_take (i := 14) (oi := { dst := some 133, op := Op.move (Operand.tmp 132), type := 4, pos := "more.go:90", after := #[{ on := 13, ground := Ground.data }, { on := 10, ground := Ground.chain }, { on := 10, ground := Ground.guard }], guard := some (10, false) }) (v := ?vlc6r31o14) rfl (by kernel_rfl) (by kernel_rfl) (by kernel_rfl) (fun _ _ _ h => h) (Or.inl ⟨by rfl, ?hlc6r31o14⟩) hS ?_
                case hlc6r31o14 => (intro wx hx; skip; go_simp; (try with_reducible rfl))
                try simp only [Act.put, List.setIfInBounds_toArray, List.set_cons_zero, List.set_cons_succ]
                refine wpAnyH_take (i := 15) (oi := { dst := some 134, op := Op.move (Operand.tmp 5), type := 24, pos := "more.go:90", after := #[{ on := 14, ground := Ground.guard }], guard := some (14, true) }) (v := ?vlc6r31o15) rfl (by kernel_rfl) (by kernel_rfl) (by kernel_rfl) (fun _ _ _ h => h) (Or.inl ⟨by rfl, ?hlc6r31o15⟩) hS ?_
                case hlc6r31o15 => (intro wx hx; skip; go_simp; (try with_reducible rfl))
                try simp only [Act.put, List.setIfInBounds_toArray, List.set_cons_zero, List.set_cons_succ]
                refine wpAnyH_take (i := 16) (oi := { dst := some 135, op := Op.move (Operand.tmp 16), type := 3, pos := "more.go:90", after := #[{ on := 14, ground := Ground.guard }], guard := some (14, true) }) (v := ?vlc6r31o16) rfl (by kernel_rfl) (by kernel_rfl) (by kernel_rfl) (fun _ _ _ h => h) (Or.inl ⟨by rfl, ?hlc6r31o16⟩) hS ?_
                case hlc6r31o16 => (intro wx hx; skip; go_simp; (try with_reducible rfl))
                try simp only [Act.put, List.setIfInBounds_toArray, List.set_cons_zero, List.set_cons_succ]
                refine wpAnyH_take (i := 18) (oi := { dst := some 137, op := Op.move (Operand.tmp 16), type := 3, pos := "more.go:90", after := #[{ on := 14, ground := Ground.guard }], guard := some (14, true) }) (v := ?vlc6r31o18) rfl (by kernel_rfl) (by kernel_rfl) (by kernel_rfl) (fun _ _ _ h => h) (Or.inl ⟨by rfl, ?hlc6r31o18⟩) hS ?_
                case hlc6r31o18 => (intro wx hx; skip; go_simp; (try with_reducible rfl))
                try simp only [Act.put, List.setIfInBounds_toArray, List.set_cons_zero, List.set_cons_succ]
                refine wpAnyH_take (i := 19) (oi := { dst := some 138, op := Op.indexAddr 42 (Operand.tmp 7) (Operand.tmp 137), type := 0, pos := "more.go:90", after := #[{ on := 18, ground := Ground.data }, { on := 14, ground := Ground.guard }], guard := some (14, true) }) (v := ?vlc6r31o19) rfl (by kernel_rfl) (by kernel_rfl) (by kernel_rfl) (fun _ _ _ h => h) (Or.inl ⟨by rfl, ?hlc6r31o19⟩) hS ?_
                case hlc6r31o19 => (intro wx hx; skip; go_simp; (try with_reducible rfl))
                try simp only [Act.put, List.setIfInBounds_toArray, List.set_cons_zero, List.set_cons_succ]
                refine wpAnyH_take (i := 20) (oi := { dst := some 139, op := Op.load 30 (Operand.tmp 138), type := 30, pos := "more.go:90", after := #[{ on := 19, ground := Ground.data }, { on := 14, ground := Ground.guard }], guard := some (14, true) }) (v := ?vlc6r31o20) rfl (by kernel_rfl) (by kernel_rfl) (by kernel_rfl) (fun _ _ _ h => h) (Or.inl ⟨by rfl, ?hlc6r31o20⟩) hS ?_
                case hlc6r31o20 => (intro wx hx; have hcx := hx; go_simp; (try with_reducible rfl))
                try simp only [Act.put, List.setIfInBounds_toArray, List.set_cons_zero, List.set_cons_succ]
                refine wpAnyH_ready (rs := [17]) (by kernel_rfl) (by simp) ?_
                refine AllReadyH.cons (o := { dst := some 136, op := Op.call { callee := Callee.value (Operand.func 13), args := #[Operand.tmp 134, Operand.tmp 135], argTypes := #[24, 3] }, type := 30, pos := "more.go:90", after := #[{ on := 15, ground := Ground.data }, { on := 16, ground := Ground.data }, { on := 14, ground := Ground.chain }, { on := 14, ground := Ground.guard }], guard := some (14, true) }) rfl (fun K hK => ?_) AllReadyH.nil
                go_simp
                refine HH.out.mono ?_
                rintro e wA ⟨d9, c9, rfl, hO9⟩
                have hO2 := Lib.hid hO9
                have hS1 := HC.out d9 c9 wA hO9
                clear HH hO9
                refine hK.out _ _ ?hslc6r31o17 (fun hS => ?_)
                case hslc6r31o17 => (exact hS1)
                clear hK K
                try simp only [Act.put, List.setIfInBounds_toArray, List.set_cons_zero, List.set_cons_succ]
                refine wpAnyH_ready (rs := [21]) (by kernel_rfl) (by simp) ?_
                refine AllReadyH.cons (o := { dst := some 140, op := Op.call { callee := Callee.value (Operand.func 16), args := #[Operand.tmp 136, Operand.tmp 139], argTypes := #[30, 30] }, type := 4, pos := "more.go:90", after := #[{ on := 17, ground := Ground.data }, { on := 20, ground := Ground.data }, { on := 17, ground := Ground.chain }, { on := 14, ground := Ground.guard }], guard := some (14, true) }) rfl (fun K hK => ?_) AllReadyH.nil
                go_simp
                refine (HS.out d9 c9 _ hO2.out).mono ?_
                rintro e wB ⟨rfl, hO9⟩
                have hO3 := Lib.hid hO9
                have hS1 := HC.out d9 c9 wB hO9
                clear HS hO2 hO9
                refine hK.out _ _ ?hslc6r31o21 (fun hS => ?_)
                case hslc6r31o21 => (exact hS1)
                clear hK K
                try simp only [Act.put, List.setIfInBounds_toArray, List.set_cons_zero, List.set_cons_succ]
                refine wpAnyH_take (i := 22) (oi := { dst := some 141, op := Op.unOp UnOp.not 4 (Operand.tmp 140), type := 4, pos := "more.go:90", after := #[{ on := 21, ground := Ground.data }, { on := 14, ground := Ground.guard }], guard := some (14, true) }) (v := ?vlc6r31o22) rfl (by kernel_rfl) (by kernel_rfl) (by kernel_rfl) (fun _ _ _ h => h) (Or.inl ⟨by rfl, ?hlc6r31o22⟩) hS ?_
                case hlc6r31o22 => (intro wx hx; skip; go_simp; (try with_reducible rfl))
                try simp only [Act.put, List.setIfInBounds_toArray, List.set_cons_zero, List.set_cons_succ]
                refine wpAnyH_take (i := 23) (oi := { dst := some 142, op := Op.pick (Operand.tmp 133) (Operand.tmp 141) (Operand.const (Value.bool false)), type := 4, pos := "more.go:90", after := #[{ on := 14, ground := Ground.data }, { on := 22, ground := Ground.data }, { on := 10, ground := Ground.guard }], guard := some (10, false) }) (v := ?vlc6r31o23) rfl (by kernel_rfl) (by kernel_rfl) (by kernel_rfl) (fun _ _ _ h => h) (Or.inl ⟨by rfl, ?hlc6r31o23⟩) hS ?_
                case hlc6r31o23 => (intro wx hx; skip; go_simp; (try with_reducible rfl))
                try simp only [Act.put, List.setIfInBounds_toArray, List.set_cons_zero, List.set_cons_succ]
                refine wpAnyH_take (i := 24) (oi := { dst := some 143, op := Op.pick (Operand.tmp 129) (Operand.const (Value.bool true)) (Operand.tmp 142), type := 4, pos := "more.go:90", after := #[{ on := 10, ground := Ground.data }, { on := 23, ground := Ground.data }], guard := none }) (v := ?vlc6r31o24) rfl (by kernel_rfl) (by kernel_rfl) (by kernel_rfl) (fun _ _ _ h => h) (Or.inl ⟨by rfl, ?hlc6r31o24⟩) hS ?_
                case hlc6r31o24 => (intro wx hx; skip; go_simp; (try with_reducible rfl))
                try simp only [Act.put, List.setIfInBounds_toArray, List.set_cons_zero, List.set_cons_succ]
                refine wpAnyH_done (by kernel_rfl) ?_ _
                have hO4 := Lib.hid (hO3.out.less)
                clear hO3 HC
                go_wp2
                go_roundw
                case rel => exact ⟨j + 1, Hj4.out, by go_num, hO4⟩
                case measure => have := Hj4.out; simp [intOf]; omega
            · have hlt' : ¬ (j : Int) < 4 := by omega
              have hg9 := Lib.hid hO.out.grown
              clear hO hj hlt
              go_wp2_with fail
              refine (works_ev _).mono ?_
              rintro e w5 ⟨rfl, hg⟩
              go_wp2
              go_ret
              exact ⟨rfl, grown_trans hg9.out hg⟩

theorem walk (a0 : Option Addr) (n c0 : Nat) (zs : List Int) (a1 : Int) (w : World) (hB : RowIn .u8 w a0 n c0 zs) (h1 : (Lit.int .u8 a1).wf = true) :
    Calls Try.prog 6 #[.slice a0 n c0, .int .u8 a1] w (WorksOk w) := by
  have b1 := bounds_u8 h1
  obtain ⟨ix, rfl⟩ := Int.eq_ofNat_of_zero_le b1.1
  obtain ⟨bs, hbl, hat⟩ := hB.bytes
  by_cases hfar : 100 < n
  · exact walk_far _ _ _ _ w hfar
  · exact walk_few a0 n c0 bs ix w hfar hbl hat (by omega)
end Go.Proofs.Ytclicjdgkcnihaa.lockApart
