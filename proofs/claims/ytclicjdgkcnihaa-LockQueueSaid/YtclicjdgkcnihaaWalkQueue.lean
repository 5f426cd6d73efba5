/- LockQueue, walked. -/
import Derived.Test.YtclicjdgkcnihaaLoqQ
import Derived.Test.YtclicjdgkcnihaaLoqP
import Derived.Test.YtclicjdgkcnihaaWorks
namespace Go.Proofs.Ytclicjdgkcnihaa.lockQueue
open Go.RowKit Go.Grommet
def WorksOk (w : World) (e : Ending) (w' : World) : Prop := e = .returned (.bool true) ∧ w.grownBy w' none
def lenOf : Value → Nat
  | .slice _ n _ => n
  | _ => 0

theorem walk_far (a0 : Option Addr) (n c0 : Nat) (g0 : Int) (w : World) (h : 20 < n) : Calls Try.prog 5 #[.int .u8 g0, .slice a0 n c0] w (WorksOk w) := by
  have g1 : (20 : Int) < (n : Int) := by omega
  go_enter Try.func5, Try.ntmps5
  go_wp2_with fail
  refine (works_ev _).mono ?_
  rintro e w5 ⟨rfl, hg⟩
  go_wp2
  go_ret
  exact ⟨rfl, hg⟩

set_option maxRecDepth 100000 in
set_option maxHeartbeats 8000000 in
theorem walk_few (a0 : Option Addr) (n c0 : Nat) (bs : List UInt8) (g0 : Nat) (w : World) (hn : ¬ 20 < n) (hbl : bs.length = n) (hB : At w a0 (bs.map bv)) (hg : g0 < 256) :
    Calls Try.prog 5 #[.int .u8 (g0 : Int), .slice a0 n c0] w (WorksOk w) := by
  have gt : ¬ (20 : Int) < (n : Int) := by omega
  have HB := Lib.hid hB
  have Hbl := Lib.hid hbl
  have HN := Lib.hid (NewH 4 (by decide) (by decide) w w [] (Own.nil w))
  rw [show ((4 : Nat) : Int) = 4 from rfl] at HN
  obtain ⟨k, HK⟩ : ∃ k, Hid (k = g0 % 70) := ⟨_, Lib.hid rfl⟩
  have hk70 : k < 70 := by rw [HK.out]; omega
  have eG : Int.tmod (g0 : Int) 70 = (k : Int) := by rw [Int.tmod_eq_emod_of_nonneg (by omega), HK.out]; omega
  have eG2 : (g0 : Int) % 70 = (k : Int) := by rw [HK.out]; omega
  have wg : IntKind.i64.wrap (g0 : Int) = (g0 : Int) := IntWalk.i64_in _ ⟨by omega, by omega⟩
  have wG : IntKind.i64.wrap (k : Int) = (k : Int) := IntWalk.i64_in _ ⟨by omega, by omega⟩
  have K0 : (0 : Int) ≤ (k : Int) := by omega
  have Hk := Lib.hid hk70
  clear hB hbl hg hk70
  go_enter Try.func5, Try.ntmps5
  go_wp2_with fail
  refine HN.out.mono ?_
  rintro e w1 ⟨X, rfl, hO⟩
  have hO1 := Lib.hid (own_fresh (k := k) hO)
  clear hO HN
  go_wp2_with fail
  go_loopw [8, 9] (fun cv s wr => ∃ (i : Nat) (C : List Nat) (ad : Option Addr) (cap nn : Nat) (q : Nat → Value), i ≤ n ∧ s = .int .i64 (i : Int) ∧ cv = .slice ad nn cap ∧ Hid (nn = C.length ∧ C.length ≤ i ∧ C.Nodup ∧ ∀ x ∈ C, x < 4) ∧ Hid (Grommet.Own w wr (TQ X 4 (fC k C) q (qlC k C) [qrowP (.slice ad nn cap) C]))) (fun _ s _ => n - (intOf s).toNat)
  case atStart => exact ⟨0, [], none, 0, 0, nilq, Nat.zero_le _, rfl, rfl, Lib.hid ⟨rfl, Nat.zero_le _, List.nodup_nil, by simp⟩, hO1⟩
  case round =>
    clear hO1 eG eG2 wg
    obtain ⟨i, C, ad, cap, nn, q, hi, rfl, rfl, HC, hO⟩ := hrel
    have i0 : (0 : Int) ≤ (i : Int) := by omega
    by_cases hlt : i < n
    · have hlt' : (i : Int) < (n : Int) := by omega
      have wi : IntKind.i64.wrap ((i : Int) + 1) = (i : Int) + 1 := IntWalk.i64_in _ ⟨by omega, by omega⟩
      have hb : (bs.map bv)[i]? = some (.int .u8 ((bs.getD i 0).toNat : Int)) := by
        rw [List.getElem?_map, List.getElem?_eq_getElem (by rw [Hbl.out]; exact hlt), List.getD_eq_getElem?_getD, List.getElem?_eq_getElem (by rw [Hbl.out]; exact hlt)]; rfl
      obtain ⟨g2, o2, hgd, hcell⟩ := HB.out i _ hb
      subst hgd
      have hcell := hO.out.grown.cell hcell (by simp)
      have hm256 : (bs.getD i 0).toNat < 256 := (bs.getD i 0).toNat_lt
      clear hb
      generalize (bs.getD i 0).toNat = b at hcell hm256
      obtain ⟨a, Ha⟩ : ∃ a, Hid (a = b % 4) := ⟨_, Lib.hid rfl⟩
      have Ha4 : Hid (a < 4) := Lib.hid (by rw [Ha.out]; omega)
      have wb : IntKind.i64.wrap (b : Int) = (b : Int) := IntWalk.i64_in _ ⟨by omega, by omega⟩
      have wa : IntKind.i64.wrap (a : Int) = (a : Int) := IntWalk.i64_in _ ⟨by have := Ha4.out; omega, by have := Ha4.out; omega⟩
      have e1 : (b : Int) % 4 = (a : Int) := by rw [Ha.out]; omega
      have e2 : Int.tmod (b : Int) 4 = (a : Int) := by rw [Int.tmod_eq_emod_of_nonneg (by omega)]; exact e1
      have Hi := Lib.hid (And.intro hi hlt)
      have nn20 : nn ≤ 20 := by have := HC.out.1; have := HC.out.2.1; omega
      clear Ha
      go_wp2_with fail
      go_loopw [11, 12] (fun t c w2 => ∃ (j : Nat) (t0 : Bool), j ≤ nn ∧ c = .int .i64 (j : Int) ∧ t = .bool t0 ∧ Hid (t0 = decide (a ∈ C.take j)) ∧ w2 = wr) (fun _ c _ => nn - (intOf c).toNat)
      case atStart => exact ⟨0, false, Nat.zero_le _, rfl, rfl, Lib.hid (by simp), rfl⟩
      case round =>
        obtain ⟨j, t0, hj, rfl, rfl, Ht, rfl⟩ := hrel
        have j0 : (0 : Int) ≤ (j : Int) := by omega
        by_cases hjn : j < nn
        · have hjn' : (j : Int) < (nn : Int) := by omega
          have wj : IntKind.i64.wrap ((j : Int) + 1) = (j : Int) + 1 := IntWalk.i64_in _ ⟨by omega, by omega⟩
          obtain ⟨x, hx⟩ : ∃ x, C[j]? = some x := ⟨_, List.getElem?_eq_getElem (by have := HC.out.1; omega)⟩
          have hat := (nums_lit (came_nums hO.out)).1
          obtain ⟨g, o, rfl, hc⟩ := NumsAt.get hat hx
          have Hst : Hid (decide (a ∈ C.take (j + 1)) = (t0 || decide ((x : Int) = (a : Int)))) := Lib.hid (by
            rw [Ht.out, Bool.eq_iff_iff, Bool.or_eq_true, decide_eq_true_eq, decide_eq_true_eq, decide_eq_true_eq, List.take_add_one, hx, List.mem_append]
            constructor
            · rintro (h | h)
              · exact .inl h
              · exact .inr (by have : a = x := by simpa using h
                               omega)
            · rintro (h | h)
              · exact .inl h
              · exact .inr (by have : a = x := by omega
                               rw [this]; simp))
          clear hx hat hcell
          cases t0 with
          | true =>
            go_wp2
            go_roundw
            case rel => exact ⟨j + 1, true, by omega, by go_num, rfl, Lib.hid (by rw [Hst.out]; rfl), by first | rfl | trivial⟩
            case measure => simp [intOf]; omega
          | false =>
            by_cases hxa : x = a
            · have q1 : ((x : Int) == (a : Int)) = true := by rw [hxa]; simp
              have Hq : Hid (decide ((x : Int) = (a : Int)) = true) := Lib.hid (decide_eq_true (by rw [hxa]))
              clear hxa
              go_wp2
              go_roundw
              case rel => exact ⟨j + 1, true, by omega, by go_num, rfl, Lib.hid (by rw [Hst.out, Hq.out]; rfl), by first | rfl | trivial⟩
              case measure => simp [intOf]; omega
            · have q1 : ((x : Int) == (a : Int)) = false := by rw [beq_eq_false_iff_ne]; omega
              have Hq : Hid (decide ((x : Int) = (a : Int)) = false) := Lib.hid (decide_eq_false (by omega))
              clear hxa
              go_wp2
              go_roundw
              case rel => exact ⟨j + 1, false, by omega, by go_num, rfl, Lib.hid (by rw [Hst.out, Hq.out]; rfl), by first | rfl | trivial⟩
              case measure => simp [intOf]; omega
        · have hjn' : ¬ (j : Int) < (nn : Int) := by omega
          obtain rfl : j = nn := by omega
          have hmem : Hid (t0 = decide (a ∈ C)) := Lib.hid (by rw [Ht.out, List.take_of_length_le (by have := HC.out.1; omega)])
          have hl100 : ∀ i, i < 70 → (qlC k C i).length ≤ 100000 := qlC_len k C (by have := HC.out.1; omega)
          have hQ : ∀ i, i < 70 → (TQ X 4 (fC k C) q (qlC k C) [qrowP (.slice ad j cap) C])[1 + i]? = some (qrowP (q i) (qlC k C i)) := fun i hi => TQ_get X 4 _ q _ _ i hi
          have hcells := fun wx (hx : Grommet.Own w wx (TQ X 4 (fC k C) q (qlC k C) [qrowP (.slice ad j cap) C])) => came_nums hx
          clear hcell
          match C, HC, hO, Ht, hmem, hl100, hQ, hcells with
          | [], HC, hO, Ht, hmem, hl100, hQ, hcells =>
            have ht0 : t0 = false := by rw [hmem.out]; simp
            subst ht0
            have hje : ((j : Int) == 0) = true := by rw [show j = 0 from HC.out.1]; rfl
            have HW := Lib.hid (WantYes 0 X 4 a k (fC k []) q w wr (TQ X 4 (fC k []) q (qlC k []) [qrowP (.slice ad j cap) []]) hO.out rfl Ha4.out Hk.out (high_oth k a [] (fun c T h => by cases h)) rfl 1 (qlC k []) hQ hl100 (wait_out (by simp)))
            unfold tptr at HW
            clear hcells hQ hl100 hmem hO Ht
            go_wp2_with fail
            refine HW.out.mono ?_
            rintro e w3 ⟨rfl, hO3⟩
            rw [TQ_set] at hO3
            have hO3' : Hid (Grommet.Own w w3 (TQ X 4 (fC k [a]) q (qlC k [a]) [qrowP (.slice ad j cap) []])) := Lib.hid hO3
            have hr3 := own_qrow hO3 (71 + 0) (by rw [TQ_rest]; rfl)
            clear HW hO3
            go_wp2_with (at_builtin; refine wpList_append_q _ rfl _ _ rfl (.slice ad j cap) [] a w3.heap.size rfl rfl (hr3.turn (H := fun _ => False) (Turn.of (World.grownBy_alloc w3 _ none) (fun _ e => by cases e)) (fun _ _ e => e)) (heap_alloc_new w3 _) (by simp) ?_)
            intro ad4 cap4 w4 hr4 hg4 hn4
            have hO4 := own_setQ (hO3'.out.quiet (World.grownBy_alloc w3 (.cells #[.int .i64 (a : Int)] 3) none)) (71 + 0) (by rw [TQ_rest]; rfl) hr4 hg4 (fun g hg => by have := hn4 g hg; rw [World.size_alloc]; exact this)
            rw [TQ_setR] at hO4
            have hO5 : Hid (Grommet.Own w w4 (TQ X 4 (fC k [a]) q (qlC k [a]) [qrowP (.slice ad4 1 cap4) [a]])) := Lib.hid hO4
            clear hr3 hr4 hg4 hn4 hO4 hO3'
            go_wp2
            go_roundw
            case rel => exact ⟨i + 1, [a], ad4, cap4, 1, q, by have := Hi.out; omega, by go_num, by go_num, Lib.hid ⟨rfl, by simp, by simp, by intro x hx; rw [List.mem_singleton.1 hx]; exact Ha4.out⟩, hO5⟩
            case measure => have := Hi.out; simp [intOf]; omega
          | c :: T, HC, hO, Ht, hmem, hl100, hQ, hcells =>
            have hjT : j = T.length + 1 := HC.out.1
            have hjne : ((j : Int) == 0) = false := by rw [beq_eq_false_iff_ne]; omega
            have hjpos : (0 : Int) < (j : Int) := by omega
            by_cases hac : a = c
            · have ht0 : t0 = true := by rw [hmem.out, decide_eq_true_eq, hac]; simp
              subst ht0
              have HW := Lib.hid (WantNo 0 X 4 a k (fC k (c :: T)) q w wr _ hO.out rfl Ha4.out Hk.out (by rw [hac]; exact high_head k c T Hk.out))
              unfold tptr at HW
              have HCe := Lib.hid hcells
              have q1 : ((c : Int) == (a : Int)) = true := by rw [hac]; simp
              clear hcells hQ hl100 hmem hO Ht hjT hac
              go_wp2_with fail
              refine HW.out.mono ?_
              rintro e w3 ⟨rfl, hO3⟩
              have hat := (nums_lit (HCe.out w3 hO3)).1
              obtain ⟨g, o, rfl, hc⟩ := NumsAt.get hat (k := 0) (x := c) rfl
              rw [Nat.add_zero] at hc
              have hO5 := Lib.hid hO3
              clear HW hO3 HCe hat
              go_wp2
              go_roundw
              case rel => exact ⟨i + 1, c :: T, _, cap, j, q, by have := Hi.out; omega, by go_num, rfl, Lib.hid ⟨HC.out.1, by have := HC.out.2.1; omega, HC.out.2.2⟩, hO5⟩
              case measure => have := Hi.out; simp [intOf]; omega
            · have hoth := high_oth k a (c :: T) (fun c' T' h => by cases h; exact hac)
              by_cases hin : a ∈ T
              · have ht0 : t0 = true := by rw [hmem.out, decide_eq_true_eq]; exact List.mem_cons_of_mem _ hin
                subst ht0
                have HW := Lib.hid (WantState 0 X 4 a k (fC k (c :: T)) q w wr _ hO.out rfl Ha4.out Hk.out hoth 1 (qlC k (c :: T)) hQ hl100 k (wait_in Hk.out hin))
                unfold tptr at HW
                have HCe := Lib.hid hcells
                have q1 : ((c : Int) == (a : Int)) = false := by rw [beq_eq_false_iff_ne]; omega
                clear hcells hQ hl100 hmem hO Ht hjT hac hin hoth
                go_wp2_with fail
                refine HW.out.mono ?_
                rintro e w3 ⟨rfl, hO3⟩
                have hat := (nums_lit (HCe.out w3 hO3)).1
                obtain ⟨g, o, rfl, hc⟩ := NumsAt.get hat (k := 0) (x := c) rfl
                rw [Nat.add_zero] at hc
                have hO5 := Lib.hid hO3
                clear HW hO3 HCe hat
                go_wp2
                go_roundw
                case rel => exact ⟨i + 1, c :: T, _, cap, j, q, by have := Hi.out; omega, by go_num, rfl, Lib.hid ⟨HC.out.1, by have := HC.out.2.1; omega, HC.out.2.2⟩, hO5⟩
                case measure => have := Hi.out; simp [intOf]; omega
              · have hnot : a ∉ c :: T := by rw [List.mem_cons]; rintro (h | h); exact hac h; exact hin h
                have ht0 : t0 = false := by rw [hmem.out]; exact decide_eq_false hnot
                subst ht0
                have hfk : fC k (c :: T) k ≠ -1 := by show seth (fun _ => -1) k (c : Int) k ≠ -1; unfold seth; rw [if_pos rfl]; omega
                have HW := Lib.hid (WantQ 0 X 4 a k (fC k (c :: T)) q w wr _ hO.out rfl Ha4.out Hk.out hoth hfk 1 (qlC k (c :: T)) hQ hl100 (wait_out hin) (fun i _ => by omega))
                unfold tptr at HW
                have Hnd : Hid ((c :: T ++ [a]).Nodup ∧ ∀ x ∈ c :: T ++ [a], x < 4) := Lib.hid ⟨by
                  rw [List.nodup_append]
                  exact ⟨HC.out.2.2.1, by simp, fun x hx y hy e => by rw [List.mem_singleton.1 hy] at e; exact hnot (e ▸ hx)⟩, fun x hx => by
                  rcases List.mem_append.1 hx with h | h
                  · exact HC.out.2.2.2 x h
                  · rw [List.mem_singleton.1 h]; exact Ha4.out⟩
                have HjT := Lib.hid hjT
                clear hcells hQ hl100 hmem hO Ht hjT hac hin hoth hnot hfk
                go_wp2_with fail
                refine HW.out.mono ?_
                rintro e w3 ⟨v, rfl, hO3⟩
                rw [TQ_queue X 4 (fC k (c :: T)) q (qlC k (c :: T)) _ k Hk.out, qlC_at, List.tail_cons, qlC_more] at hO3
                have hO3' : Hid (Grommet.Own w w3 (TQ X 4 (fC k (c :: T ++ [a])) (setq q k v) (qlC k (c :: T ++ [a])) [qrowP (.slice ad j cap) (c :: T)])) := Lib.hid hO3
                have hr3 := own_qrow hO3 (71 + 0) (by rw [TQ_rest]; rfl)
                have hln : (c :: T).length ≤ 100000 := by rw [List.length_cons]; have := HjT.out; omega
                have hjl : (c :: T).length = j := by rw [List.length_cons]; exact HjT.out.symm
                clear HW hO3
                go_wp2_with (at_builtin; refine wpList_append_q _ rfl _ _ rfl (.slice ad j cap) (c :: T) a w3.heap.size rfl rfl (hr3.turn (H := fun _ => False) (Turn.of (World.grownBy_alloc w3 _ none) (fun _ e => by cases e)) (fun _ _ e => e)) (heap_alloc_new w3 _) hln ?_)
                intro ad4 cap4 w4 hr4 hg4 hn4
                have hO4 := own_setQ (hO3'.out.quiet (World.grownBy_alloc w3 (.cells #[.int .i64 (a : Int)] 3) none)) (71 + 0) (by rw [TQ_rest]; rfl) hr4 hg4 (fun g hg => by have := hn4 g hg; rw [World.size_alloc]; exact this)
                rw [TQ_setR] at hO4
                obtain ⟨j', hj'⟩ : ∃ j', j + 1 = j' := ⟨_, rfl⟩
                rw [hj'] at hO4 ⊢
                have hO5 : Hid (Grommet.Own w w4 (TQ X 4 (fC k (c :: T ++ [a])) (setq q k v) (qlC k (c :: T ++ [a])) [qrowP (.slice ad4 j' cap4) (c :: T ++ [a])])) := Lib.hid hO4
                have Hj' := Lib.hid hj'
                clear hr3 hr4 hg4 hn4 hO4 hO3' hj' hln hjl
                go_wp2
                go_roundw
                case rel => exact ⟨i + 1, c :: T ++ [a], ad4, cap4, j', setq q k v, by have := Hi.out; omega, by go_num, rfl, Lib.hid ⟨by rw [← Hj'.out, HjT.out, List.length_append]; rfl, by have := HC.out.2.1; rw [List.length_append]; simp only [List.length_singleton]; omega, Hnd.out⟩, hO5⟩
                case measure => have := Hi.out; simp [intOf]; omega
    · have hlt' : ¬ (i : Int) < (n : Int) := by omega
      have HC4 : Hid (C.Nodup ∧ ∀ x ∈ C, x < 4) := Lib.hid HC.out.2.2
      have HC3 : Hid (nn = C.length ∧ nn ≤ 20) := Lib.hid ⟨HC.out.1, by have := HC.out.1; have := HC.out.2.1; omega⟩
      clear HC i0 hlt hi HB Hbl
      go_wp2_with fail
      go_loopw [8] (fun cv wr => ∃ (C : List Nat) (ad : Option Addr) (cap nn : Nat) (q : Nat → Value), cv = .slice ad nn cap ∧ Hid (nn = C.length ∧ nn ≤ 20) ∧ Hid (C.Nodup ∧ ∀ x ∈ C, x < 4) ∧ Hid (Grommet.Own w wr (TQ X 4 (fC k C) q (qlC k C) [qrowP (.slice ad nn cap) C]))) (fun cv _ => lenOf cv)
      case atStart => exact ⟨C, ad, cap, nn, q, rfl, HC3, HC4, hO⟩
      case round =>
        clear HC3 HC4 hO
        obtain ⟨C, ad, cap, nn, q, rfl, HC, HD, hO⟩ := hrel
        match C, HC, HD, hO with
        | [], HC, HD, hO =>
          have hnn : nn = 0 := HC.out.1
          subst hnn
          have hT : TabIs wr X 4 (fC k []) q := hO.out.box 0 rfl
          have HQ := Lib.hid (Queue_any wr X 4 k (fC k []) q [] hT Hk.out (by have := (own_qrow hO.out _ (TQ_get X 4 _ q _ _ k Hk.out)).nums; rwa [qlC_at] at this) (by simp))
          unfold tptr at HQ
          have HG := Lib.hid hO.out.grown
          clear HC HD hO hT
          go_wp2_with fail
          refine HQ.out.mono ?_
          rintro e w3 ⟨v3, rfl, ⟨ad3, cap3, rfl, _⟩, hg3⟩
          have HG3 := Lib.hid (grown_trans HG.out hg3)
          clear hg3 HQ HG
          go_wp2_with fail
          refine (works_ev _).mono ?_
          rintro e w5 ⟨rfl, hg5⟩
          go_wp2
          go_ret
          exact ⟨rfl, grown_trans HG3.out hg5⟩
        | c :: T, HC, HD, hO =>
          have hnT : nn = T.length + 1 := HC.out.1
          have hnn20 := HC.out.2
          have hnpos : (0 : Int) < (nn : Int) := by omega
          have hc4 : c < 4 := HD.out.2 c (List.mem_cons_self ..)
          have hcT : c ∉ T := (List.nodup_cons.1 HD.out.1).1
          obtain ⟨hat, _, hcl⟩ := nums_lit (came_nums hO.out)
          obtain ⟨g, o, rfl, hc0⟩ := NumsAt.get hat (k := 0) (x := c) rfl
          rw [Nat.add_zero] at hc0
          obtain ⟨ta, tn, tc, htv⟩ : ∃ ta tn tc, tailV (.slice (some ⟨g, o, none⟩) nn cap) = .slice ta tn tc := ⟨_, _, _, rfl⟩
          have htn : tn = nn - 1 := by rw [tailV_slice] at htv; injection htv with _ h _; exact h.symm
          have hsl : ∀ wx, (Instr.slice 30 (.slice (some ⟨g, o, none⟩) nn cap) (some (.int .i64 1)) none none).run Try.prog wx = .ok (.slice ta tn tc) wx := fun wx => by rw [← htv]; exact slice_tail wx g o nn cap (by omega)
          have HOq := Lib.hid (fun wx (hg : wr.grownBy wx none) => hO.out.quiet hg)
          have Htail := Lib.hid (fun wx (h : Grommet.Own w wx (TQ X 4 (fC k (c :: T)) q (qlC k (c :: T)) [qrowP (.slice (some ⟨g, o, none⟩) nn cap) (c :: T)])) => (show NumsAt wx (.slice ta tn tc) T by rw [← htv]; exact came_nums (own_tail h)))
          have HH := Lib.hid (fun wx (hg : wr.grownBy wx none) => (show Calls Try.prog 15 #[.pointer (some ⟨X, 0, none⟩), .int .i64 (c : Int), .int .i64 (k : Int)] wx fun e w' => e = .returned (.bool true) ∧ w' = wx from by
            have h := Holds_yes wx X 4 (fC k (c :: T)) q ((HOq.out wx hg).box 0 rfl) c k hc4 Hk.out
            rwa [show (fC k (c :: T) k == (c : Int)) = true from by show (seth (fun _ => -1) k (c : Int) k == (c : Int)) = true; unfold seth; rw [if_pos rfl]; simp] at h))
          have HQu := Lib.hid (fun wx (hg : wr.grownBy wx none) => (show Calls Try.prog 14 #[.pointer (some ⟨X, 0, none⟩), .int .i64 (k : Int)] wx fun e w' => ∃ v', e = .returned v' ∧ NumsAt w' v' T ∧ wx.grownBy w' none from
            Queue_any wx X 4 k (fC k (c :: T)) q T ((HOq.out wx hg).box 0 rfl) Hk.out (by have := (own_qrow (HOq.out wx hg) _ (TQ_get X 4 _ q _ _ k Hk.out)).nums; rwa [qlC_at] at this) (by omega)))
          have HSm := Lib.hid (fun wx vq (hg : wr.grownBy wx none) (hv : NumsAt wx vq T) => (show Calls Try.prog 16 #[vq, .slice ta tn tc] wx fun e w' => e = .returned (.bool true) ∧ wx.grownBy w' none from by
            have h := SameN_any wx vq (.slice ta tn tc) T T hv (Htail.out wx (HOq.out wx hg)) (by omega)
            rwa [decide_eq_true rfl] at h))
          have HGv := Lib.hid (fun wx (hg : wr.grownBy wx none) => GiveH X 4 c (fC k (c :: T)) q (qlC k (c :: T)) w wx _ (HOq.out wx hg) hc4 (fun i _ => by
            by_cases e : i = k
            · subst e; rw [qlC_at]; exact hcT
            · rw [qlC_ne k _ e]; simp) (qlC_len k (c :: T) (by rw [List.length_cons]; omega)))
          unfold tptr at HGv
          have Hgs := Lib.hid (giveS_eq k c T q Hk.out)
          have Hat := Lib.hid (fun wx (hg : wr.grownBy wx none) => hat.grown hg (by intro _ _ _ e; cases e))
          have HD2 : Hid (T.Nodup ∧ ∀ x ∈ T, x < 4) := Lib.hid ⟨(List.nodup_cons.1 HD.out.1).2, fun x hx => HD.out.2 x (List.mem_cons_of_mem _ hx)⟩
          have HnT := Lib.hid hnT
          have Htn := Lib.hid htn
          have Htv := Lib.hid htv
          have Hcl := Lib.hid hcl
          clear HC HD hO hat htv htn hc4 hcT hcl hnT
          go_wp2_with fail
          refine wp_region_held_drew (S := fun w' => wr.grownBy w' none) (by kernel_rfl) (grown_drew (World.grownBy.refl wr _)) (fun hS => ?_)
          refine wpAnyH_take (i := 0) (oi := { dst := some 103, op := Op.move (Operand.tmp 5), type := 24, pos := "more.go:42", after := #[], guard := none }) (v := ?vq5r25o0) rfl (by kernel_rfl) (by kernel_rfl) (by kernel_rfl) (fun _ _ _ h => h) (Or.inl ⟨by rfl, ?hq5r25o0⟩) hS ?_
          case hq5r25o0 => (intro wx hx; skip; go_simp; (try with_reducible rfl))
          try simp only [Act.put, List.setIfInBounds_toArray, List.set_cons_zero, List.set_cons_succ]
          refine wpAnyH_take (i := 1) (oi := { dst := some 104, op := Op.move (Operand.tmp 8), type := 30, pos := "more.go:42", after := #[], guard := none }) (v := ?vq5r25o1) rfl (by kernel_rfl) (by kernel_rfl) (by kernel_rfl) (fun _ _ _ h => h) (Or.inl ⟨by rfl, ?hq5r25o1⟩) hS ?_
          case hq5r25o1 => (intro wx hx; skip; go_simp; (try with_reducible rfl))
          try simp only [Act.put, List.setIfInBounds_toArray, List.set_cons_zero, List.set_cons_succ]
          refine wpAnyH_take (i := 2) (oi := { dst := some 105, op := Op.indexAddr 30 (Operand.tmp 104) (Operand.const (Value.int IntKind.i64 0)), type := 0, pos := "more.go:42", after := #[{ on := 1, ground := Ground.data }], guard := none }) (v := ?vq5r25o2) rfl (by kernel_rfl) (by kernel_rfl) (by kernel_rfl) (fun _ _ _ h => h) (Or.inl ⟨by rfl, ?hq5r25o2⟩) hS ?_
          case hq5r25o2 => (intro wx hx; skip; go_simp; (try with_reducible rfl))
          try simp only [Act.put, List.setIfInBounds_toArray, List.set_cons_zero, List.set_cons_succ]
          refine wpAnyH_take (i := 3) (oi := { dst := some 106, op := Op.load 3 (Operand.tmp 105), type := 3, pos := "more.go:42", after := #[{ on := 2, ground := Ground.data }], guard := none }) (v := ?vq5r25o3) rfl (by kernel_rfl) (by kernel_rfl) (by kernel_rfl) (fun _ _ _ h => h) (Or.inl ⟨by rfl, ?hq5r25o3⟩) hS ?_
          case hq5r25o3 => (intro wx hx; have f0 := hx.cell hc0 (by simp); go_simp; (try with_reducible rfl))
          try simp only [Act.put, List.setIfInBounds_toArray, List.set_cons_zero, List.set_cons_succ]
          refine wpAnyH_take (i := 4) (oi := { dst := some 107, op := Op.move (Operand.tmp 7), type := 3, pos := "more.go:42", after := #[], guard := none }) (v := ?vq5r25o4) rfl (by kernel_rfl) (by kernel_rfl) (by kernel_rfl) (fun _ _ _ h => h) (Or.inl ⟨by rfl, ?hq5r25o4⟩) hS ?_
          case hq5r25o4 => (intro wx hx; skip; go_simp; (try with_reducible rfl))
          try simp only [Act.put, List.setIfInBounds_toArray, List.set_cons_zero, List.set_cons_succ]
          refine wpAnyH_ready (rs := [5]) (by kernel_rfl) (by simp) ?_
          refine AllReadyH.cons (o := { dst := some 108, op := Op.call { callee := Callee.value (Operand.func 15), args := #[Operand.tmp 103, Operand.tmp 106, Operand.tmp 107], argTypes := #[24, 3, 3] }, type := 4, pos := "more.go:42", after := #[{ on := 0, ground := Ground.data }, { on := 3, ground := Ground.data }, { on := 4, ground := Ground.data }], guard := none }) rfl (fun K hK => ?_) AllReadyH.nil
          go_simp
          refine (HH.out _ hS).mono ?_
          rintro e w1 ⟨rfl, rfl⟩
          have hS1 := hS
          refine hK.out _ _ ?hsq5r25o5 (fun hS => ?_)
          case hsq5r25o5 => (exact hS1)
          clear hK K
          try simp only [Act.put, List.setIfInBounds_toArray, List.set_cons_zero, List.set_cons_succ]
          refine wpAnyH_take (i := 6) (oi := { dst := some 109, op := Op.unOp UnOp.not 4 (Operand.tmp 108), type := 4, pos := "more.go:42", after := #[{ on := 5, ground := Ground.data }], guard := none }) (v := ?vq5r25o6) rfl (by kernel_rfl) (by kernel_rfl) (by kernel_rfl) (fun _ _ _ h => h) (Or.inl ⟨by rfl, ?hq5r25o6⟩) hS ?_
          case hq5r25o6 => (intro wx hx; skip; go_simp; (try with_reducible rfl))
          try simp only [Act.put, List.setIfInBounds_toArray, List.set_cons_zero, List.set_cons_succ]
          refine wpAnyH_take (i := 7) (oi := { dst := some 110, op := Op.move (Operand.tmp 109), type := 4, pos := "more.go:42", after := #[{ on := 6, ground := Ground.data }, { on := 5, ground := Ground.chain }], guard := none }) (v := ?vq5r25o7) rfl (by kernel_rfl) (by kernel_rfl) (by kernel_rfl) (fun _ _ _ h => h) (Or.inl ⟨by rfl, ?hq5r25o7⟩) hS ?_
          case hq5r25o7 => (intro wx hx; skip; go_simp; (try with_reducible rfl))
          try simp only [Act.put, List.setIfInBounds_toArray, List.set_cons_zero, List.set_cons_succ]
          refine wpAnyH_take (i := 8) (oi := { dst := some 111, op := Op.move (Operand.tmp 5), type := 24, pos := "more.go:42", after := #[{ on := 7, ground := Ground.guard }], guard := some (7, false) }) (v := ?vq5r25o8) rfl (by kernel_rfl) (by kernel_rfl) (by kernel_rfl) (fun _ _ _ h => h) (Or.inl ⟨by rfl, ?hq5r25o8⟩) hS ?_
          case hq5r25o8 => (intro wx hx; skip; go_simp; (try with_reducible rfl))
          try simp only [Act.put, List.setIfInBounds_toArray, List.set_cons_zero, List.set_cons_succ]
          refine wpAnyH_take (i := 9) (oi := { dst := some 112, op := Op.move (Operand.tmp 7), type := 3, pos := "more.go:42", after := #[{ on := 7, ground := Ground.guard }], guard := some (7, false) }) (v := ?vq5r25o9) rfl (by kernel_rfl) (by kernel_rfl) (by kernel_rfl) (fun _ _ _ h => h) (Or.inl ⟨by rfl, ?hq5r25o9⟩) hS ?_
          case hq5r25o9 => (intro wx hx; skip; go_simp; (try with_reducible rfl))
          try simp only [Act.put, List.setIfInBounds_toArray, List.set_cons_zero, List.set_cons_succ]
          refine wpAnyH_take (i := 11) (oi := { dst := some 114, op := Op.move (Operand.tmp 8), type := 30, pos := "more.go:42", after := #[{ on := 7, ground := Ground.guard }], guard := some (7, false) }) (v := ?vq5r25o11) rfl (by kernel_rfl) (by kernel_rfl) (by kernel_rfl) (fun _ _ _ h => h) (Or.inl ⟨by rfl, ?hq5r25o11⟩) hS ?_
          case hq5r25o11 => (intro wx hx; skip; go_simp; (try with_reducible rfl))
          try simp only [Act.put, List.setIfInBounds_toArray, List.set_cons_zero, List.set_cons_succ]
          refine wpAnyH_take (i := 12) (oi := { dst := some 115, op := Op.slice 30 (Operand.tmp 114) (some (Operand.const (Value.int IntKind.i64 1))) none none, type := 30, pos := "more.go:42", after := #[{ on := 11, ground := Ground.data }, { on := 7, ground := Ground.guard }], guard := some (7, false) }) (v := ?vq5r25o12) rfl (by kernel_rfl) (by kernel_rfl) (by kernel_rfl) (fun _ _ _ h => h) (Or.inl ⟨by rfl, ?hq5r25o12⟩) hS ?_
          case hq5r25o12 => (intro wx hx; skip; go_simp; (try with_reducible rfl))
          try simp only [Act.put, List.setIfInBounds_toArray, List.set_cons_zero, List.set_cons_succ]
          refine wpAnyH_ready (rs := [10]) (by kernel_rfl) (by simp) ?_
          refine AllReadyH.cons (o := { dst := some 113, op := Op.call { callee := Callee.value (Operand.func 14), args := #[Operand.tmp 111, Operand.tmp 112], argTypes := #[24, 3] }, type := 30, pos := "more.go:42", after := #[{ on := 8, ground := Ground.data }, { on := 9, ground := Ground.data }, { on := 7, ground := Ground.chain }, { on := 7, ground := Ground.guard }], guard := some (7, false) }) rfl (fun K hK => ?_) AllReadyH.nil
          go_simp
          refine (HQu.out _ hS).mono ?_
          rintro e w2 ⟨vq, rfl, hvq, hgq⟩
          have HVq := Lib.hid hvq
          have hS1 := grown_trans hS hgq
          clear hvq hgq
          refine hK.out _ _ ?hsq5r25o10 (fun hS => ?_)
          case hsq5r25o10 => (exact hS1)
          clear hK K
          try simp only [Act.put, List.setIfInBounds_toArray, List.set_cons_zero, List.set_cons_succ]
          refine wpAnyH_ready (rs := [13]) (by kernel_rfl) (by simp) ?_
          refine AllReadyH.cons (o := { dst := some 116, op := Op.call { callee := Callee.value (Operand.func 16), args := #[Operand.tmp 113, Operand.tmp 115], argTypes := #[30, 30] }, type := 4, pos := "more.go:42", after := #[{ on := 10, ground := Ground.data }, { on := 12, ground := Ground.data }, { on := 10, ground := Ground.chain }, { on := 7, ground := Ground.guard }], guard := some (7, false) }) rfl (fun K hK => ?_) AllReadyH.nil
          go_simp
          refine (HSm.out _ _ hS HVq.out).mono ?_
          rintro e w3 ⟨rfl, hg3⟩
          have hS1 := grown_trans hS hg3
          clear hg3
          refine hK.out _ _ ?hsq5r25o13 (fun hS => ?_)
          case hsq5r25o13 => (exact hS1)
          clear hK K
          try simp only [Act.put, List.setIfInBounds_toArray, List.set_cons_zero, List.set_cons_succ]
          refine wpAnyH_take (i := 14) (oi := { dst := some 117, op := Op.unOp UnOp.not 4 (Operand.tmp 116), type := 4, pos := "more.go:42", after := #[{ on := 13, ground := Ground.data }, { on := 7, ground := Ground.guard }], guard := some (7, false) }) (v := ?vq5r25o14) rfl (by kernel_rfl) (by kernel_rfl) (by kernel_rfl) (fun _ _ _ h => h) (Or.inl ⟨by rfl, ?hq5r25o14⟩) hS ?_
          case hq5r25o14 => (intro wx hx; skip; go_simp; (try with_reducible rfl))
          try simp only [Act.put, List.setIfInBounds_toArray, List.set_cons_zero, List.set_cons_succ]
          refine wpAnyH_take (i := 15) (oi := { dst := some 118, op := Op.pick (Operand.tmp 110) (Operand.const (Value.bool true)) (Operand.tmp 117), type := 4, pos := "more.go:42", after := #[{ on := 7, ground := Ground.data }, { on := 14, ground := Ground.data }], guard := none }) (v := ?vq5r25o15) rfl (by kernel_rfl) (by kernel_rfl) (by kernel_rfl) (fun _ _ _ h => h) (Or.inl ⟨by rfl, ?hq5r25o15⟩) hS ?_
          case hq5r25o15 => (intro wx hx; skip; go_simp; (try with_reducible rfl))
          try simp only [Act.put, List.setIfInBounds_toArray, List.set_cons_zero, List.set_cons_succ]
          refine wpAnyH_done (by kernel_rfl) ?_ _
          have f0b := hS.cell hc0 (by simp)
          have HGw := Lib.hid (HGv.out _ hS)
          clear hS HVq HH HQu HSm HGv HOq Hat Htail hc0
          go_wp2_with fail
          refine HGw.out.mono ?_
          rintro e w5 ⟨v5, rfl, hv5, hO5⟩
          rw [Hgs.out.1, Hgs.out.2.1] at hO5
          rw [Hgs.out.2.2] at hv5
          generalize (giveS (fC k (c :: T)) q (qlC k (c :: T)) c).q = q5 at hO5
          have hO6 : Hid (Grommet.Own w w5 (TQ X 4 (fC k T) q5 (qlC k T) [qrowP (.slice ta tn tc) T])) := Lib.hid (by have := own_tail hO5; rwa [Htv.out] at this)
          have hat5 := (nums_lit (came_nums hO5)).1
          clear hO5 HGw f0b Hgs
          cases T with
          | nil =>
            obtain ⟨ad5, cap5, rfl, _⟩ := hv5
            have q1 : ((nn : Int) == 1) = true := by rw [show nn = 1 from HnT.out]; rfl
            have q2 : ¬ (1 : Int) < (nn : Int) := by rw [show nn = 1 from HnT.out]; decide
            have q3 : decide ((1 : Int) < (nn : Int)) = false := decide_eq_false q2
            clear hat5
            go_wp2
            go_roundw
            case rel => exact ⟨[], ta, tc, tn, q5, rfl, Lib.hid ⟨by rw [Htn.out, HnT.out]; rfl, by rw [Htn.out]; omega⟩, HD2, hO6⟩
            case measure => show tn < nn; rw [Htn.out]; have := HnT.out; omega
          | cons d T2 =>
            have hnd : nn = T2.length + 2 := HnT.out
            have q1 : ((nn : Int) == 1) = false := by rw [beq_eq_false_iff_ne]; omega
            have q2 : (1 : Int) < (nn : Int) := by omega
            obtain ⟨ad6, hs6, hat6, _, _⟩ := slice_part (P := Try.prog) 30 3 Try.underlying30 (fun w => Try.sizeOf3 w) (some ⟨g, o, none⟩) nn cap 1 2 (by omega) (by have := Hcl.out; omega)
            obtain ⟨c6, hc6⟩ : ∃ c6, cap - 1 = c6 := ⟨_, rfl⟩
            rw [hc6] at hs6
            have hs7 : ∀ wx, (Instr.slice 30 (.slice (some ⟨g, o, none⟩) nn cap) (some (.int .i64 1)) (some (.int .i64 2)) none).run Try.prog wx = .ok (.slice ad6 1 c6) wx := hs6
            have HSs := Lib.hid (show Calls Try.prog 16 #[v5, .slice ad6 1 c6] w5 fun e w' => e = .returned (.bool true) ∧ w5.grownBy w' none from by
              have h := SameN_any w5 v5 (.slice ad6 1 c6) [d] [d] hv5 ⟨ad6, c6, rfl, hat6 w5 _ hat5 (by rw [List.length_map, List.length_cons, List.length_cons]; have := Hcl.out; omega), by have := Hcl.out; simp only [List.length_singleton]; omega⟩ (by simp)
              rwa [decide_eq_true rfl] at h)
            have Hnd := Lib.hid hnd
            clear hat5 hat6 hs6 hc6 hv5 hnd
            go_wp2_with fail
            refine HSs.out.mono ?_
            rintro e w6 ⟨rfl, hg6⟩
            have hO7 := Lib.hid (hO6.out.quiet hg6)
            clear hg6 hO6 HSs
            go_wp2
            go_roundw
            case rel => exact ⟨d :: T2, ta, tc, tn, q5, rfl, Lib.hid ⟨by rw [Htn.out, Hnd.out]; rfl, by rw [Htn.out]; omega⟩, HD2, hO7⟩
            case measure => show tn < nn; rw [Htn.out]; have := Hnd.out; omega

theorem walk (g0 : Int) (a0 : Option Addr) (n c0 : Nat) (zs : List Int) (w : World) (h1 : (Lit.int .u8 g0).wf = true) (hB : RowIn .u8 w a0 n c0 zs) :
    Calls Try.prog 5 #[.int .u8 g0, .slice a0 n c0] w (WorksOk w) := by
  have b1 := bounds_u8 h1
  obtain ⟨ix, rfl⟩ := Int.eq_ofNat_of_zero_le b1.1
  obtain ⟨bs, hbl, hat⟩ := hB.bytes
  by_cases hfar : 20 < n
  · exact walk_far _ _ _ _ w hfar
  · exact walk_few a0 n c0 bs ix w hfar hbl hat (by omega)
end Go.Proofs.Ytclicjdgkcnihaa.lockQueue
