/- Package pmem: all that is seen. -/
import Derived.Test.YtimihchklecabaaPmJ
namespace Go.Proofs.Ytimihchklecabaa
open Go.RowKit Go.Grommet Go.Shelf
attribute [local go_sem] Oper.semAt_some

theorem theSeen_any (w : World) (d g : Nat) (ws : List PW) (h : DevIs w d g ws) (k : Nat) (c : PW) (hc : ws[k]? = some c) :
    Calls Try.prog 42 #[wordAt g k] w fun e w' => e = .returned (.int .u64 (c.seen : Int)) ∧ w' = w := by
  obtain ⟨f0, f1, f2, f3, f4, f5⟩ := h.get hc
  unfold wordAt
  clear h hc
  go_enter Try.func42, Try.ntmps42
  go_wp2
  go_ret
  exact ⟨rfl, rfl⟩

set_option maxHeartbeats 4000000 in
theorem allSeen_any (w : World) (d g : Nat) (ws : List PW) (h : DevIs w d g ws) (N : Nat) (hN : ws.length = 8 * N) :
    Calls Try.prog 40 #[ptr d, .func (.func 42) #[] #[]] w fun e w' => ∃ v, e = .returned v ∧ w'.ownsRow w.heap.size 32 1 v ws.length (ws.map fun c => wv c.seen) ∧ w.grownBy w' none := by
  have hf := h.fits
  have hN8 : ws.length / 8 = N := by omega
  have hrow := (Array.getElem?_eq_some_iff.1 h.row).1
  have hdd := (Array.getElem?_eq_some_iff.1 h.dev).1
  have hga := World.grownBy_alloc w (.cells #[.func (.func 42) #[] #[]] 80) none
  have ha := h.grown hga
  have HWd := Lib.hid (Words_any _ d g ws ha)
  have hbf := heap_alloc_new w (.cells #[.func (.func 42) #[] #[]] 80)
  obtain ⟨i0, hi0, hz0, hz1, hz2⟩ := info_parts info64
  obtain ⟨n, hn⟩ : ∃ n, ws.length = n := ⟨_, rfl⟩
  rw [hn] at HWd hN hf hN8
  replace hN := Lib.hid hN
  have hmk : ∀ w', (Instr.makeSlice 44 (.int .i64 0) (.int .i64 (n : Int))).run Try.prog w' = .ok (.slice (some ⟨w'.heap.size, 0, none⟩) 0 n) (w'.alloc (.cells (madeCells (Value.cells (.int .u64 0)) n) 32)) := by
    intro w'
    have := run_make (P := Try.prog) w' 44 32 i0 (.int .u64 0) Try.underlying44 hi0 hz0 .i64 .i64 0 n (Int.le_refl _) (by omega) (by rw [hz2]; omega) (by omega)
    rw [hz1, Nat.mul_one] at this
    exact this
  unfold ptr at HWd ⊢
  refine (callsIn_wide (n := 9)).1 ?_
  refine callsIn_of_wp_marks Try.func40 rfl trivial ?_ rfl
  simp only [Try.ntmps40, List.size_toArray, List.length_cons, List.length_nil, Nat.reduceAdd, Nat.reduceSub, Array.replicate_succ, Array.replicate_zero, List.push_toArray, List.append_toArray, List.nil_append, List.cons_append]
  gi_wp2_with fail
  generalize hwa : w.alloc (.cells #[.func (.func 42) #[] #[]] 80) = wa at hga ha hbf HWd ⊢
  refine ⟨trivial, (callsIn_wide.2 HWd.out).mono ?_⟩
  rintro e w1 ⟨rfl, rfl⟩
  have hsa : w1.heap.size = w.heap.size + 1 := by rw [← hwa]; simp
  gi_wp2_with fail
  have hr1 := heap_alloc_new w1 (.cells (madeCells (Value.cells (.int .u64 0)) n) 32)
  have hb1 := heap_alloc_new (w1.alloc (.cells (madeCells (Value.cells (.int .u64 0)) n) 32)) (.cells #[.slice (some ⟨w.heap.size + 1, 0, none⟩) 0 n] 44)
  have hg2 := grown_trans (World.grownBy_alloc w1 (.cells (madeCells (Value.cells (.int .u64 0)) n) 32) none) (World.grownBy_alloc (w1.alloc (.cells (madeCells (Value.cells (.int .u64 0)) n) 32)) (.cells #[.slice (some ⟨w.heap.size + 1, 0, none⟩) 0 n] 44) none)
  have hr2 := ((World.grownBy_alloc (w1.alloc (.cells (madeCells (Value.cells (.int .u64 0)) n) 32)) (.cells #[.slice (some ⟨w.heap.size + 1, 0, none⟩) 0 n] 44) none).block w1.heap.size (by simp) (by simp)).trans hr1
  have hmc : (madeCells (Value.cells (.int .u64 0)) n).size = n := by simp [madeCells, Value.cells]
  rw [World.size_alloc] at hb1
  generalize hw3 : (w1.alloc (.cells (madeCells (Value.cells (.int .u64 0)) n) 32)).alloc (.cells #[.slice (some ⟨w.heap.size + 1, 0, none⟩) 0 n] 44) = w3 at hb1 hg2 hr2
  simp only [Value.cells] at hw3
  rw [hw3]
  have hs3 : w3.heap.size = w.heap.size + 3 := by rw [← hw3]; simp; omega
  clear hw3 hwa hr1
  have h3 := ha.grown hg2
  have hf3 := (hg2.block _ (by omega) (by simp)).trans hbf
  have hB3 : w3.heap[w.heap.size + 2]? = some (.cells #[.slice (some ⟨w.heap.size + 1, 0, none⟩) 0 n] 44 (0, 0)) := by rw [hsa] at hb1; exact hb1
  have hO3 : w3.ownsRow w.heap.size 32 1 (.slice (some ⟨w.heap.size + 1, 0, none⟩) 0 n) 0 [] :=
    ⟨rfl, .inr ⟨w.heap.size + 1, n, _, rfl, by omega, by rw [hsa] at hr2; exact hr2, Nat.zero_le _, by unfold maxLen; omega, by rw [hmc, Nat.mul_one], by simp⟩⟩
  have hG3 : w.grownBy w3 none := grown_trans hga hg2
  have HL := Lib.hid (lines_any _ d g ws h3)
  rw [hn, hN8] at HL
  unfold ptr at HL
  clear hmk hga ha hbf HWd hr2 hb1 hg2 hmc
  refine ⟨trivial, (callsIn_wide.2 HL.out).mono ?_⟩
  rintro e w1 ⟨rfl, rfl⟩
  gi_wp2_with fail
  refine wpIn_loop (fun a' w' => ∃ (j : Nat) (u6 u14 u15 u16 u17 u18 u26 : Value) (ds : List Deferred), (j ≤ N ∧ DevIs w' d g ws ∧ w'.heap[w.heap.size]? = some (.cells #[.func (.func 42) #[] #[]] 80 (0, 0)) ∧ (∃ v, w'.heap[w.heap.size + 2]? = some (.cells #[v] 44 (0, 0)) ∧ w'.ownsRow w.heap.size 32 1 v (8 * j) ((gather (fun s c => s ++ [c.seen]) ws 0 (8 * j) []).map wv)) ∧ w.grownBy w' none ∧ Marks w.heap.size w' w'.heap.size ds) ∧ a' = { tmps := #[.pointer (some ⟨d, 0, none⟩), .func (.func 42) #[] #[], undef, .pointer (some ⟨w.heap.size, 0, none⟩), .slice none 0 0, .pointer (some ⟨w.heap.size + 2, 0, none⟩), u6, undef, .pointer (some ⟨d, 0, none⟩), .int .i64 (n : Int), .slice (some ⟨w.heap.size + 1, 0, none⟩) 0 n, .pointer (some ⟨d, 0, none⟩), .int .i64 (N : Int), .int .i64 (j : Int), u14, u15, u16, u17, u18, undef, undef, undef, undef, undef, undef, undef, u26, undef], defers := ds })
    (fun a' _ => N - (intOf (a'.tmps.getD 13 undef)).toNat) ?start ?round
  case start => exact ⟨0, _, _, _, _, _, _, _, [], ⟨Nat.zero_le _, h3, hf3, ⟨_, hB3, hO3⟩, hG3, trivial⟩, rfl⟩
  case round =>
    rintro _ wr ⟨j, u6, u14, u15, u16, u17, u18, u26, ds, ⟨hj, hD, hF, hB, hG, hM⟩, rfl⟩
    have j0 : (0 : Int) ≤ (j : Int) := by omega
    have hBs : w.heap.size + 2 < wr.heap.size := by obtain ⟨v, hv, _⟩ := hB; exact (Array.getElem?_eq_some_iff.1 hv).1
    by_cases hlt : j < N
    · have hlt' : (j : Int) < (N : Int) := by omega
      have wj : IntKind.i64.wrap ((j : Int) + 1) = (j : Int) + 1 := IntWalk.i64_in _ ⟨by omega, by omega⟩
      gi_wp2_with fail
      refine ⟨trivial, (callsIn_wide.2 (line_any wr d j)).mono ?_⟩
      rintro e w2 ⟨rfl, hw2⟩
      obtain ⟨b1, b2, hg2, hs2, hk2⟩ := boxes_new wr d j w2 hw2
      have hD2 := hD.grown hg2
      have hM2 := (hM.keeps hk2).up (by omega : wr.heap.size ≤ w2.heap.size)
      have hF2 := (hg2.block _ (by omega) (by simp)).trans hF
      have hB2 : ∃ v, w2.heap[w.heap.size + 2]? = some (.cells #[v] 44 (0, 0)) ∧ w2.ownsRow w.heap.size 32 1 v (gather (fun s c => s ++ [c.seen]) ws 0 (8 * j) []).length ((gather (fun s c => s ++ [c.seen]) ws 0 (8 * j) []).map wv) := by
        obtain ⟨v, h1, h2⟩ := hB
        refine ⟨v, (hg2.block _ hBs (by simp)).trans h1, ?_⟩
        rw [gather_len]
        exact (Turn.of (F := fun _ => False) hg2 (fun _ e => by cases e)).row h2 (fun _ _ e => e)
      clear hw2 hB
      gi_wp2_with fail
      refine range_line2 (by decide) (bi := wr.heap.size + 1) (bd := wr.heap.size) (d := d) (g := g) (i := j) (n := ws.length) rfl rfl b1 b2 hD2.dev (by rw [hn]; have := hN.out; omega) (by rw [hn]; exact hf)
        (fun s x => s ++ [(ws.getD (8 * j + x) PW.nought).seen]) (gather (fun s c => s ++ [c.seen]) ws 0 (8 * j) []) (AllL 42 w d g wr.heap.size ws ds) (by rw [hs2]; exact AllL.own hdd hrow hBs) ⟨hD2, hF2, hB2, grown_trans hG hg2, by omega, by rw [← hs2]; exact hM2, ⟨_, b1⟩, ⟨_, b2⟩⟩
        (fun x => { tmps := #[ptr d, .func (.func 42) #[] #[], undef, ptr w.heap.size, .slice none 0 0, ptr (w.heap.size + 2), .int .i64 (j : Int), wordAt g (8 * j + x), ptr d, .int .i64 (n : Int), .slice (some ⟨w.heap.size + 1, 0, none⟩) 0 n, ptr d, .int .i64 (N : Int), .int .i64 (j : Int), .bool true, .int .i64 (j : Int), ptr d, .int .i64 (j : Int), .func (.func 43) #[] #[ptr (wr.heap.size + 1), ptr wr.heap.size], wordAt g (8 * j + x), undef, undef, undef, undef, undef, undef, u26, undef], defers := [] }) ?assign ?body ?done
      case assign =>
        intro l x W K hK
        gi_wp2
        exact hK
      case body =>
        rintro l pre x W hpre hx hL
        have hslen := step_len (ws := ws) (f := PW.seen) j pre (gather (fun s c => s ++ [c.seen]) ws 0 (8 * j) [])
        rw [gather_len] at hslen
        have hNo := hN.out
        generalize pre.foldl (fun s x => s ++ [(ws.getD (8 * j + x) PW.nought).seen]) (gather (fun s c => s ++ [c.seen]) ws 0 (8 * j) []) = s at hL hslen ⊢
        have hc : ws[8 * j + x]? = some (ws.getD (8 * j + x) PW.nought) := by
          rw [List.getD_eq_getElem?_getD, List.getElem?_eq_getElem (by omega : 8 * j + x < ws.length)]; rfl
        generalize hk : 8 * j + x = k at hc ⊢
        generalize ws.getD k PW.nought = c at hc ⊢
        obtain ⟨v, hv, hown⟩ := hL.box
        have cF : W.cell? ⟨w.heap.size, 0, none⟩ = some (.func (.func 42) #[] #[]) := by unfold World.cell?; rw [hL.fn]; rfl
        have cR : W.cell? ⟨w.heap.size + 2, 0, none⟩ = some v := by unfold World.cell?; rw [hv]; rfl
        have zR : W.frozen? ⟨w.heap.size + 2, 0, none⟩ = false := by simp [World.frozen?, hv]
        have HC := Lib.hid (fun (Wx : World) (hDx : DevIs Wx d g ws) => theSeen_any Wx d g ws hDx k c hc)
        have hDd := Lib.hid hL.dev
        have hDdr := Lib.hid (show DevIs W.drew d g ws from ⟨hL.dev.dev, hL.dev.row, hL.dev.ne, hL.dev.fits, hL.dev.small⟩)
        have hmix : Try.prog.follows .mixedOrders = true := by kernel_rfl
        obtain ⟨ad, cap, rfl, _⟩ := row_slice hown
        have hownA : (W.drew.alloc (.cells #[.int .u64 (c.seen : Int)] 32)).ownsRow w.heap.size 32 1 (.slice ad s.length cap) s.length (s.map wv) :=
          (Turn.of (F := fun _ => False) (grown_trans (grown_drew (World.grownBy.refl W none)) (World.grownBy_alloc W.drew (.cells #[.int .u64 (c.seen : Int)] 32) none)) (fun _ e => by cases e)).row hown (fun _ _ e => e)
        have hszL := hL.size
        obtain ⟨v', w', hap, ho', hg', _, hwhere⟩ := run_append_own_at (P := Try.prog) (W.drew.alloc (.cells #[.int .u64 (c.seen : Int)] 32)) w.heap.size 44 44 32 i0 (.int .u64 0) 1 8 Try.underlying44 hi0 hz0 hz1 hz2 rfl (by decide) _ s.length (s.map wv) hownA ⟨W.heap.size, 0, none⟩ 1 1 [.int .u64 (c.seen : Int)] rfl (cell_one_new _ _ _) (by simp [Value.oneCell']) (by unfold maxLen; omega) (by omega) (by simp; omega)
        obtain ⟨ad', cap', rfl, _⟩ := row_slice ho'
        have hgA : W.grownBy (W.drew.alloc (.cells #[.int .u64 (c.seen : Int)] 32)) none := grown_trans (grown_drew (World.grownBy.refl W none)) (World.grownBy_alloc W.drew (.cells #[.int .u64 (c.seen : Int)] 32) none)
        have hbA := (hgA.block _ (Array.getElem?_eq_some_iff.1 hv).1 (by simp)).trans hv
        have hfA := (hgA.block _ (Array.getElem?_eq_some_iff.1 hL.fn).1 (by simp)).trans hL.fn
        have hdA := hL.dev.grown hgA
        have hkA : KeepsOthers W (W.drew.alloc (.cells #[.int .u64 (c.seen : Int)] 32)) := (KeepsOthers.drew W).trans (KeepsOthers.alloc _ _)
        have cRA : (W.alloc (.cells #[.int .u64 (c.seen : Int)] 32)).cell? ⟨w.heap.size + 2, 0, none⟩ = some (.slice ad s.length cap) := by
          have : (W.drew.alloc (.cells #[.int .u64 (c.seen : Int)] 32)).cell? ⟨w.heap.size + 2, 0, none⟩ = some (.slice ad s.length cap) := by unfold World.cell?; rw [hbA]; rfl
          exact this
        have hfin := Lib.hid (AllL.round hL hdd hrow hBs hgA hbA hfA hdA hownA hg' ho' hkA)
        have hbw := AllL.boxes hbA hownA hg'
        have cR' : w'.cell? ⟨w.heap.size + 2, 0, none⟩ = some (.slice ad s.length cap) := by unfold World.cell?; rw [hbw]; rfl
        have zR' : w'.frozen? ⟨w.heap.size + 2, 0, none⟩ = false := by simp [World.frozen?, hbw]
        clear hslen hNo
        clear hbw hgA hbA hfA hdA hkA hownA hg' ho' hwhere hL hown hv
        unfold wordAt ptr at *
        gi_wp2_with fail
        refine wpIn_region_any hmix ?_
        change wpAnyIn _ _ _ _ _ _ _ _ _ (World.drew _)
        refine wpAnyIn_ready (rs := [0, 1, 2]) (by kernel_rfl) (by simp) ?_
        refine AllReadyIn.cons rfl (fun K hK => ?_) ?_
        · go_simp
          refine hK _ _ ?_; clear hK K
          try simp only [Act.put, List.setIfInBounds_toArray, List.set_cons_zero, List.set_cons_succ]
          refine wpAnyIn_ready (rs := [1, 2]) (by kernel_rfl) (by simp) ?_
          refine AllReadyIn.cons rfl (fun K hK => ?_) ?_
          · go_simp
            refine hK _ _ ?_; clear hK K
            try simp only [Act.put, List.setIfInBounds_toArray, List.set_cons_zero, List.set_cons_succ]
            refine wpAnyIn_ready (rs := [2]) (by kernel_rfl) (by simp) ?_
            refine AllReadyIn.cons rfl (fun K hK => ?_) ?_
            · go_simp
              refine hK _ _ ?_; clear hK K
              try simp only [Act.put, List.setIfInBounds_toArray, List.set_cons_zero, List.set_cons_succ]
              refine wpAnyIn_ready (rs := [3]) (by kernel_rfl) (by simp) ?_
              refine AllReadyIn.cons rfl (fun K hK => ?_) ?_
              · gi_wp2_with (refine ⟨trivial, (CallsIn.inRound l (callsIn_wide.2 (HC.out _ hDdr.out))).mono ?_⟩; rintro e w5 ⟨rfl, rfl⟩)
                try simp only [Act.put, List.setIfInBounds_toArray, List.set_cons_zero, List.set_cons_succ]
                refine wpAnyIn_ready (rs := [4]) (by kernel_rfl) (by simp) ?_
                refine AllReadyIn.cons rfl (fun K hK => ?_) ?_
                · go_simp
                  refine hK _ _ ?_; clear hK K
                  try simp only [Act.put, List.setIfInBounds_toArray, List.set_cons_zero, List.set_cons_succ]
                  refine wpAnyIn_ready (rs := [5]) (by kernel_rfl) (by simp) ?_
                  refine AllReadyIn.cons (o := { dst := some 25, op := Op.call { callee := Callee.builtin Builtin.append, args := #[Operand.tmp 20, Operand.tmp 24], argTypes := #[44, 44] }, type := 44, pos := "pmem.go:170", after := #[{ on := 0, ground := Ground.data }, { on := 4, ground := Ground.data }, { on := 3, ground := Ground.chain }], guard := none }) rfl (fun K hK => ?_) ?_
                  · refine Eq.mp (if_pos (by rfl)).symm ?_; refine step_append (v := .slice ad s.length cap) (y := .slice (some ⟨W.heap.size, 0, none⟩) 1 1) _ _ 44 rfl rfl rfl hap ?_
                    refine hK _ _ ?_; clear hK K
                    try simp only [Act.put, List.setIfInBounds_toArray, List.set_cons_zero, List.set_cons_succ]
                    refine wpAnyIn_ready (rs := [6]) (by kernel_rfl) (by simp) ?_
                    refine AllReadyIn.cons rfl (fun K hK => ?_) ?_
                    · go_simp
                      refine hK _ _ ?_; clear hK K
                      try simp only [Act.put, List.setIfInBounds_toArray, List.set_cons_zero, List.set_cons_succ]
                      refine wpAnyIn_done (by kernel_rfl) ?_ _
                      gi_wp2
                      exact hfin.out
                    exact AllReadyIn.nil
                  exact AllReadyIn.nil
                exact AllReadyIn.nil
              exact AllReadyIn.nil
            exact AllReadyIn.nil
          refine AllReadyIn.cons rfl (fun K hK => ?_) ?_
          · go_simp
            refine hK _ _ ?_; clear hK K
            try simp only [Act.put, List.setIfInBounds_toArray, List.set_cons_zero, List.set_cons_succ]
            refine wpAnyIn_ready (rs := [1]) (by kernel_rfl) (by simp) ?_
            refine AllReadyIn.cons rfl (fun K hK => ?_) ?_
            · go_simp
              refine hK _ _ ?_; clear hK K
              try simp only [Act.put, List.setIfInBounds_toArray, List.set_cons_zero, List.set_cons_succ]
              refine wpAnyIn_ready (rs := [3]) (by kernel_rfl) (by simp) ?_
              refine AllReadyIn.cons rfl (fun K hK => ?_) ?_
              · gi_wp2_with (refine ⟨trivial, (CallsIn.inRound l (callsIn_wide.2 (HC.out _ hDdr.out))).mono ?_⟩; rintro e w5 ⟨rfl, rfl⟩)
                try simp only [Act.put, List.setIfInBounds_toArray, List.set_cons_zero, List.set_cons_succ]
                refine wpAnyIn_ready (rs := [4]) (by kernel_rfl) (by simp) ?_
                refine AllReadyIn.cons rfl (fun K hK => ?_) ?_
                · go_simp
                  refine hK _ _ ?_; clear hK K
                  try simp only [Act.put, List.setIfInBounds_toArray, List.set_cons_zero, List.set_cons_succ]
                  refine wpAnyIn_ready (rs := [5]) (by kernel_rfl) (by simp) ?_
                  refine AllReadyIn.cons (o := { dst := some 25, op := Op.call { callee := Callee.builtin Builtin.append, args := #[Operand.tmp 20, Operand.tmp 24], argTypes := #[44, 44] }, type := 44, pos := "pmem.go:170", after := #[{ on := 0, ground := Ground.data }, { on := 4, ground := Ground.data }, { on := 3, ground := Ground.chain }], guard := none }) rfl (fun K hK => ?_) ?_
                  · refine Eq.mp (if_pos (by rfl)).symm ?_; refine step_append (v := .slice ad s.length cap) (y := .slice (some ⟨W.heap.size, 0, none⟩) 1 1) _ _ 44 rfl rfl rfl hap ?_
                    refine hK _ _ ?_; clear hK K
                    try simp only [Act.put, List.setIfInBounds_toArray, List.set_cons_zero, List.set_cons_succ]
                    refine wpAnyIn_ready (rs := [6]) (by kernel_rfl) (by simp) ?_
                    refine AllReadyIn.cons rfl (fun K hK => ?_) ?_
                    · go_simp
                      refine hK _ _ ?_; clear hK K
                      try simp only [Act.put, List.setIfInBounds_toArray, List.set_cons_zero, List.set_cons_succ]
                      refine wpAnyIn_done (by kernel_rfl) ?_ _
                      gi_wp2
                      exact hfin.out
                    exact AllReadyIn.nil
                  exact AllReadyIn.nil
                exact AllReadyIn.nil
              exact AllReadyIn.nil
            exact AllReadyIn.nil
          exact AllReadyIn.nil
        refine AllReadyIn.cons rfl (fun K hK => ?_) ?_
        · go_simp
          refine hK _ _ ?_; clear hK K
          try simp only [Act.put, List.setIfInBounds_toArray, List.set_cons_zero, List.set_cons_succ]
          refine wpAnyIn_ready (rs := [0, 2]) (by kernel_rfl) (by simp) ?_
          refine AllReadyIn.cons rfl (fun K hK => ?_) ?_
          · go_simp
            refine hK _ _ ?_; clear hK K
            try simp only [Act.put, List.setIfInBounds_toArray, List.set_cons_zero, List.set_cons_succ]
            refine wpAnyIn_ready (rs := [2]) (by kernel_rfl) (by simp) ?_
            refine AllReadyIn.cons rfl (fun K hK => ?_) ?_
            · go_simp
              refine hK _ _ ?_; clear hK K
              try simp only [Act.put, List.setIfInBounds_toArray, List.set_cons_zero, List.set_cons_succ]
              refine wpAnyIn_ready (rs := [3]) (by kernel_rfl) (by simp) ?_
              refine AllReadyIn.cons rfl (fun K hK => ?_) ?_
              · gi_wp2_with (refine ⟨trivial, (CallsIn.inRound l (callsIn_wide.2 (HC.out _ hDdr.out))).mono ?_⟩; rintro e w5 ⟨rfl, rfl⟩)
                try simp only [Act.put, List.setIfInBounds_toArray, List.set_cons_zero, List.set_cons_succ]
                refine wpAnyIn_ready (rs := [4]) (by kernel_rfl) (by simp) ?_
                refine AllReadyIn.cons rfl (fun K hK => ?_) ?_
                · go_simp
                  refine hK _ _ ?_; clear hK K
                  try simp only [Act.put, List.setIfInBounds_toArray, List.set_cons_zero, List.set_cons_succ]
                  refine wpAnyIn_ready (rs := [5]) (by kernel_rfl) (by simp) ?_
                  refine AllReadyIn.cons (o := { dst := some 25, op := Op.call { callee := Callee.builtin Builtin.append, args := #[Operand.tmp 20, Operand.tmp 24], argTypes := #[44, 44] }, type := 44, pos := "pmem.go:170", after := #[{ on := 0, ground := Ground.data }, { on := 4, ground := Ground.data }, { on := 3, ground := Ground.chain }], guard := none }) rfl (fun K hK => ?_) ?_
                  · refine Eq.mp (if_pos (by rfl)).symm ?_; refine step_append (v := .slice ad s.length cap) (y := .slice (some ⟨W.heap.size, 0, none⟩) 1 1) _ _ 44 rfl rfl rfl hap ?_
                    refine hK _ _ ?_; clear hK K
                    try simp only [Act.put, List.setIfInBounds_toArray, List.set_cons_zero, List.set_cons_succ]
                    refine wpAnyIn_ready (rs := [6]) (by kernel_rfl) (by simp) ?_
                    refine AllReadyIn.cons rfl (fun K hK => ?_) ?_
                    · go_simp
                      refine hK _ _ ?_; clear hK K
                      try simp only [Act.put, List.setIfInBounds_toArray, List.set_cons_zero, List.set_cons_succ]
                      refine wpAnyIn_done (by kernel_rfl) ?_ _
                      gi_wp2
                      exact hfin.out
                    exact AllReadyIn.nil
                  exact AllReadyIn.nil
                exact AllReadyIn.nil
              exact AllReadyIn.nil
            exact AllReadyIn.nil
          refine AllReadyIn.cons rfl (fun K hK => ?_) ?_
          · go_simp
            refine hK _ _ ?_; clear hK K
            try simp only [Act.put, List.setIfInBounds_toArray, List.set_cons_zero, List.set_cons_succ]
            refine wpAnyIn_ready (rs := [0, 3]) (by kernel_rfl) (by simp) ?_
            refine AllReadyIn.cons rfl (fun K hK => ?_) ?_
            · go_simp
              refine hK _ _ ?_; clear hK K
              try simp only [Act.put, List.setIfInBounds_toArray, List.set_cons_zero, List.set_cons_succ]
              refine wpAnyIn_ready (rs := [3]) (by kernel_rfl) (by simp) ?_
              refine AllReadyIn.cons rfl (fun K hK => ?_) ?_
              · gi_wp2_with (refine ⟨trivial, (CallsIn.inRound l (callsIn_wide.2 (HC.out _ hDdr.out))).mono ?_⟩; rintro e w5 ⟨rfl, rfl⟩)
                try simp only [Act.put, List.setIfInBounds_toArray, List.set_cons_zero, List.set_cons_succ]
                refine wpAnyIn_ready (rs := [4]) (by kernel_rfl) (by simp) ?_
                refine AllReadyIn.cons rfl (fun K hK => ?_) ?_
                · go_simp
                  refine hK _ _ ?_; clear hK K
                  try simp only [Act.put, List.setIfInBounds_toArray, List.set_cons_zero, List.set_cons_succ]
                  refine wpAnyIn_ready (rs := [5]) (by kernel_rfl) (by simp) ?_
                  refine AllReadyIn.cons (o := { dst := some 25, op := Op.call { callee := Callee.builtin Builtin.append, args := #[Operand.tmp 20, Operand.tmp 24], argTypes := #[44, 44] }, type := 44, pos := "pmem.go:170", after := #[{ on := 0, ground := Ground.data }, { on := 4, ground := Ground.data }, { on := 3, ground := Ground.chain }], guard := none }) rfl (fun K hK => ?_) ?_
                  · refine Eq.mp (if_pos (by rfl)).symm ?_; refine step_append (v := .slice ad s.length cap) (y := .slice (some ⟨W.heap.size, 0, none⟩) 1 1) _ _ 44 rfl rfl rfl hap ?_
                    refine hK _ _ ?_; clear hK K
                    try simp only [Act.put, List.setIfInBounds_toArray, List.set_cons_zero, List.set_cons_succ]
                    refine wpAnyIn_ready (rs := [6]) (by kernel_rfl) (by simp) ?_
                    refine AllReadyIn.cons rfl (fun K hK => ?_) ?_
                    · go_simp
                      refine hK _ _ ?_; clear hK K
                      try simp only [Act.put, List.setIfInBounds_toArray, List.set_cons_zero, List.set_cons_succ]
                      refine wpAnyIn_done (by kernel_rfl) ?_ _
                      gi_wp2
                      exact hfin.out
                    exact AllReadyIn.nil
                  exact AllReadyIn.nil
                exact AllReadyIn.nil
              exact AllReadyIn.nil
            refine AllReadyIn.cons rfl (fun K hK => ?_) ?_
            · gi_wp2_with (refine ⟨trivial, (CallsIn.inRound l (callsIn_wide.2 (HC.out _ hDdr.out))).mono ?_⟩; rintro e w5 ⟨rfl, rfl⟩)
              try simp only [Act.put, List.setIfInBounds_toArray, List.set_cons_zero, List.set_cons_succ]
              refine wpAnyIn_ready (rs := [0, 4]) (by kernel_rfl) (by simp) ?_
              refine AllReadyIn.cons rfl (fun K hK => ?_) ?_
              · go_simp
                refine hK _ _ ?_; clear hK K
                try simp only [Act.put, List.setIfInBounds_toArray, List.set_cons_zero, List.set_cons_succ]
                refine wpAnyIn_ready (rs := [4]) (by kernel_rfl) (by simp) ?_
                refine AllReadyIn.cons rfl (fun K hK => ?_) ?_
                · go_simp
                  refine hK _ _ ?_; clear hK K
                  try simp only [Act.put, List.setIfInBounds_toArray, List.set_cons_zero, List.set_cons_succ]
                  refine wpAnyIn_ready (rs := [5]) (by kernel_rfl) (by simp) ?_
                  refine AllReadyIn.cons (o := { dst := some 25, op := Op.call { callee := Callee.builtin Builtin.append, args := #[Operand.tmp 20, Operand.tmp 24], argTypes := #[44, 44] }, type := 44, pos := "pmem.go:170", after := #[{ on := 0, ground := Ground.data }, { on := 4, ground := Ground.data }, { on := 3, ground := Ground.chain }], guard := none }) rfl (fun K hK => ?_) ?_
                  · refine Eq.mp (if_pos (by rfl)).symm ?_; refine step_append (v := .slice ad s.length cap) (y := .slice (some ⟨W.heap.size, 0, none⟩) 1 1) _ _ 44 rfl rfl rfl hap ?_
                    refine hK _ _ ?_; clear hK K
                    try simp only [Act.put, List.setIfInBounds_toArray, List.set_cons_zero, List.set_cons_succ]
                    refine wpAnyIn_ready (rs := [6]) (by kernel_rfl) (by simp) ?_
                    refine AllReadyIn.cons rfl (fun K hK => ?_) ?_
                    · go_simp
                      refine hK _ _ ?_; clear hK K
                      try simp only [Act.put, List.setIfInBounds_toArray, List.set_cons_zero, List.set_cons_succ]
                      refine wpAnyIn_done (by kernel_rfl) ?_ _
                      gi_wp2
                      exact hfin.out
                    exact AllReadyIn.nil
                  exact AllReadyIn.nil
                exact AllReadyIn.nil
              refine AllReadyIn.cons rfl (fun K hK => ?_) ?_
              · go_simp
                refine hK _ _ ?_; clear hK K
                try simp only [Act.put, List.setIfInBounds_toArray, List.set_cons_zero, List.set_cons_succ]
                refine wpAnyIn_ready (rs := [0]) (by kernel_rfl) (by simp) ?_
                refine AllReadyIn.cons rfl (fun K hK => ?_) ?_
                · go_simp
                  refine hK _ _ ?_; clear hK K
                  try simp only [Act.put, List.setIfInBounds_toArray, List.set_cons_zero, List.set_cons_succ]
                  refine wpAnyIn_ready (rs := [5]) (by kernel_rfl) (by simp) ?_
                  refine AllReadyIn.cons (o := { dst := some 25, op := Op.call { callee := Callee.builtin Builtin.append, args := #[Operand.tmp 20, Operand.tmp 24], argTypes := #[44, 44] }, type := 44, pos := "pmem.go:170", after := #[{ on := 0, ground := Ground.data }, { on := 4, ground := Ground.data }, { on := 3, ground := Ground.chain }], guard := none }) rfl (fun K hK => ?_) ?_
                  · refine Eq.mp (if_pos (by rfl)).symm ?_; refine step_append (v := .slice ad s.length cap) (y := .slice (some ⟨W.heap.size, 0, none⟩) 1 1) _ _ 44 rfl rfl rfl hap ?_
                    refine hK _ _ ?_; clear hK K
                    try simp only [Act.put, List.setIfInBounds_toArray, List.set_cons_zero, List.set_cons_succ]
                    refine wpAnyIn_ready (rs := [6]) (by kernel_rfl) (by simp) ?_
                    refine AllReadyIn.cons rfl (fun K hK => ?_) ?_
                    · go_simp
                      refine hK _ _ ?_; clear hK K
                      try simp only [Act.put, List.setIfInBounds_toArray, List.set_cons_zero, List.set_cons_succ]
                      refine wpAnyIn_done (by kernel_rfl) ?_ _
                      gi_wp2
                      exact hfin.out
                    exact AllReadyIn.nil
                  exact AllReadyIn.nil
                exact AllReadyIn.nil
              exact AllReadyIn.nil
            exact AllReadyIn.nil
          exact AllReadyIn.nil
        refine AllReadyIn.cons rfl (fun K hK => ?_) ?_
        · go_simp
          refine hK _ _ ?_; clear hK K
          try simp only [Act.put, List.setIfInBounds_toArray, List.set_cons_zero, List.set_cons_succ]
          refine wpAnyIn_ready (rs := [0, 1]) (by kernel_rfl) (by simp) ?_
          refine AllReadyIn.cons rfl (fun K hK => ?_) ?_
          · go_simp
            refine hK _ _ ?_; clear hK K
            try simp only [Act.put, List.setIfInBounds_toArray, List.set_cons_zero, List.set_cons_succ]
            refine wpAnyIn_ready (rs := [1]) (by kernel_rfl) (by simp) ?_
            refine AllReadyIn.cons rfl (fun K hK => ?_) ?_
            · go_simp
              refine hK _ _ ?_; clear hK K
              try simp only [Act.put, List.setIfInBounds_toArray, List.set_cons_zero, List.set_cons_succ]
              refine wpAnyIn_ready (rs := [3]) (by kernel_rfl) (by simp) ?_
              refine AllReadyIn.cons rfl (fun K hK => ?_) ?_
              · gi_wp2_with (refine ⟨trivial, (CallsIn.inRound l (callsIn_wide.2 (HC.out _ hDdr.out))).mono ?_⟩; rintro e w5 ⟨rfl, rfl⟩)
                try simp only [Act.put, List.setIfInBounds_toArray, List.set_cons_zero, List.set_cons_succ]
                refine wpAnyIn_ready (rs := [4]) (by kernel_rfl) (by simp) ?_
                refine AllReadyIn.cons rfl (fun K hK => ?_) ?_
                · go_simp
                  refine hK _ _ ?_; clear hK K
                  try simp only [Act.put, List.setIfInBounds_toArray, List.set_cons_zero, List.set_cons_succ]
                  refine wpAnyIn_ready (rs := [5]) (by kernel_rfl) (by simp) ?_
                  refine AllReadyIn.cons (o := { dst := some 25, op := Op.call { callee := Callee.builtin Builtin.append, args := #[Operand.tmp 20, Operand.tmp 24], argTypes := #[44, 44] }, type := 44, pos := "pmem.go:170", after := #[{ on := 0, ground := Ground.data }, { on := 4, ground := Ground.data }, { on := 3, ground := Ground.chain }], guard := none }) rfl (fun K hK => ?_) ?_
                  · refine Eq.mp (if_pos (by rfl)).symm ?_; refine step_append (v := .slice ad s.length cap) (y := .slice (some ⟨W.heap.size, 0, none⟩) 1 1) _ _ 44 rfl rfl rfl hap ?_
                    refine hK _ _ ?_; clear hK K
                    try simp only [Act.put, List.setIfInBounds_toArray, List.set_cons_zero, List.set_cons_succ]
                    refine wpAnyIn_ready (rs := [6]) (by kernel_rfl) (by simp) ?_
                    refine AllReadyIn.cons rfl (fun K hK => ?_) ?_
                    · go_simp
                      refine hK _ _ ?_; clear hK K
                      try simp only [Act.put, List.setIfInBounds_toArray, List.set_cons_zero, List.set_cons_succ]
                      refine wpAnyIn_done (by kernel_rfl) ?_ _
                      gi_wp2
                      exact hfin.out
                    exact AllReadyIn.nil
                  exact AllReadyIn.nil
                exact AllReadyIn.nil
              exact AllReadyIn.nil
            exact AllReadyIn.nil
          refine AllReadyIn.cons rfl (fun K hK => ?_) ?_
          · go_simp
            refine hK _ _ ?_; clear hK K
            try simp only [Act.put, List.setIfInBounds_toArray, List.set_cons_zero, List.set_cons_succ]
            refine wpAnyIn_ready (rs := [0, 3]) (by kernel_rfl) (by simp) ?_
            refine AllReadyIn.cons rfl (fun K hK => ?_) ?_
            · go_simp
              refine hK _ _ ?_; clear hK K
              try simp only [Act.put, List.setIfInBounds_toArray, List.set_cons_zero, List.set_cons_succ]
              refine wpAnyIn_ready (rs := [3]) (by kernel_rfl) (by simp) ?_
              refine AllReadyIn.cons rfl (fun K hK => ?_) ?_
              · gi_wp2_with (refine ⟨trivial, (CallsIn.inRound l (callsIn_wide.2 (HC.out _ hDdr.out))).mono ?_⟩; rintro e w5 ⟨rfl, rfl⟩)
                try simp only [Act.put, List.setIfInBounds_toArray, List.set_cons_zero, List.set_cons_succ]
                refine wpAnyIn_ready (rs := [4]) (by kernel_rfl) (by simp) ?_
                refine AllReadyIn.cons rfl (fun K hK => ?_) ?_
                · go_simp
                  refine hK _ _ ?_; clear hK K
                  try simp only [Act.put, List.setIfInBounds_toArray, List.set_cons_zero, List.set_cons_succ]
                  refine wpAnyIn_ready (rs := [5]) (by kernel_rfl) (by simp) ?_
                  refine AllReadyIn.cons (o := { dst := some 25, op := Op.call { callee := Callee.builtin Builtin.append, args := #[Operand.tmp 20, Operand.tmp 24], argTypes := #[44, 44] }, type := 44, pos := "pmem.go:170", after := #[{ on := 0, ground := Ground.data }, { on := 4, ground := Ground.data }, { on := 3, ground := Ground.chain }], guard := none }) rfl (fun K hK => ?_) ?_
                  · refine Eq.mp (if_pos (by rfl)).symm ?_; refine step_append (v := .slice ad s.length cap) (y := .slice (some ⟨W.heap.size, 0, none⟩) 1 1) _ _ 44 rfl rfl rfl hap ?_
                    refine hK _ _ ?_; clear hK K
                    try simp only [Act.put, List.setIfInBounds_toArray, List.set_cons_zero, List.set_cons_succ]
                    refine wpAnyIn_ready (rs := [6]) (by kernel_rfl) (by simp) ?_
                    refine AllReadyIn.cons rfl (fun K hK => ?_) ?_
                    · go_simp
                      refine hK _ _ ?_; clear hK K
                      try simp only [Act.put, List.setIfInBounds_toArray, List.set_cons_zero, List.set_cons_succ]
                      refine wpAnyIn_done (by kernel_rfl) ?_ _
                      gi_wp2
                      exact hfin.out
                    exact AllReadyIn.nil
                  exact AllReadyIn.nil
                exact AllReadyIn.nil
              exact AllReadyIn.nil
            refine AllReadyIn.cons rfl (fun K hK => ?_) ?_
            · gi_wp2_with (refine ⟨trivial, (CallsIn.inRound l (callsIn_wide.2 (HC.out _ hDdr.out))).mono ?_⟩; rintro e w5 ⟨rfl, rfl⟩)
              try simp only [Act.put, List.setIfInBounds_toArray, List.set_cons_zero, List.set_cons_succ]
              refine wpAnyIn_ready (rs := [0, 4]) (by kernel_rfl) (by simp) ?_
              refine AllReadyIn.cons rfl (fun K hK => ?_) ?_
              · go_simp
                refine hK _ _ ?_; clear hK K
                try simp only [Act.put, List.setIfInBounds_toArray, List.set_cons_zero, List.set_cons_succ]
                refine wpAnyIn_ready (rs := [4]) (by kernel_rfl) (by simp) ?_
                refine AllReadyIn.cons rfl (fun K hK => ?_) ?_
                · go_simp
                  refine hK _ _ ?_; clear hK K
                  try simp only [Act.put, List.setIfInBounds_toArray, List.set_cons_zero, List.set_cons_succ]
                  refine wpAnyIn_ready (rs := [5]) (by kernel_rfl) (by simp) ?_
                  refine AllReadyIn.cons (o := { dst := some 25, op := Op.call { callee := Callee.builtin Builtin.append, args := #[Operand.tmp 20, Operand.tmp 24], argTypes := #[44, 44] }, type := 44, pos := "pmem.go:170", after := #[{ on := 0, ground := Ground.data }, { on := 4, ground := Ground.data }, { on := 3, ground := Ground.chain }], guard := none }) rfl (fun K hK => ?_) ?_
                  · refine Eq.mp (if_pos (by rfl)).symm ?_; refine step_append (v := .slice ad s.length cap) (y := .slice (some ⟨W.heap.size, 0, none⟩) 1 1) _ _ 44 rfl rfl rfl hap ?_
                    refine hK _ _ ?_; clear hK K
                    try simp only [Act.put, List.setIfInBounds_toArray, List.set_cons_zero, List.set_cons_succ]
                    refine wpAnyIn_ready (rs := [6]) (by kernel_rfl) (by simp) ?_
                    refine AllReadyIn.cons rfl (fun K hK => ?_) ?_
                    · go_simp
                      refine hK _ _ ?_; clear hK K
                      try simp only [Act.put, List.setIfInBounds_toArray, List.set_cons_zero, List.set_cons_succ]
                      refine wpAnyIn_done (by kernel_rfl) ?_ _
                      gi_wp2
                      exact hfin.out
                    exact AllReadyIn.nil
                  exact AllReadyIn.nil
                exact AllReadyIn.nil
              refine AllReadyIn.cons rfl (fun K hK => ?_) ?_
              · go_simp
                refine hK _ _ ?_; clear hK K
                try simp only [Act.put, List.setIfInBounds_toArray, List.set_cons_zero, List.set_cons_succ]
                refine wpAnyIn_ready (rs := [0]) (by kernel_rfl) (by simp) ?_
                refine AllReadyIn.cons rfl (fun K hK => ?_) ?_
                · go_simp
                  refine hK _ _ ?_; clear hK K
                  try simp only [Act.put, List.setIfInBounds_toArray, List.set_cons_zero, List.set_cons_succ]
                  refine wpAnyIn_ready (rs := [5]) (by kernel_rfl) (by simp) ?_
                  refine AllReadyIn.cons (o := { dst := some 25, op := Op.call { callee := Callee.builtin Builtin.append, args := #[Operand.tmp 20, Operand.tmp 24], argTypes := #[44, 44] }, type := 44, pos := "pmem.go:170", after := #[{ on := 0, ground := Ground.data }, { on := 4, ground := Ground.data }, { on := 3, ground := Ground.chain }], guard := none }) rfl (fun K hK => ?_) ?_
                  · refine Eq.mp (if_pos (by rfl)).symm ?_; refine step_append (v := .slice ad s.length cap) (y := .slice (some ⟨W.heap.size, 0, none⟩) 1 1) _ _ 44 rfl rfl rfl hap ?_
                    refine hK _ _ ?_; clear hK K
                    try simp only [Act.put, List.setIfInBounds_toArray, List.set_cons_zero, List.set_cons_succ]
                    refine wpAnyIn_ready (rs := [6]) (by kernel_rfl) (by simp) ?_
                    refine AllReadyIn.cons rfl (fun K hK => ?_) ?_
                    · go_simp
                      refine hK _ _ ?_; clear hK K
                      try simp only [Act.put, List.setIfInBounds_toArray, List.set_cons_zero, List.set_cons_succ]
                      refine wpAnyIn_done (by kernel_rfl) ?_ _
                      gi_wp2
                      exact hfin.out
                    exact AllReadyIn.nil
                  exact AllReadyIn.nil
                exact AllReadyIn.nil
              exact AllReadyIn.nil
            exact AllReadyIn.nil
          exact AllReadyIn.nil
        exact AllReadyIn.nil
      case done =>
        rintro D W hD3 hL hK
        have hline := Lib.hid (gather_line (fun s (c : PW) => s ++ [c.seen]) ws j [])
        have hN2 := Lib.hid (show DevIs W d g ws ∧ W.heap[w.heap.size]? = some (.cells #[.func (.func 42) #[] #[]] 80 (0, 0)) ∧ (∃ v, W.heap[w.heap.size + 2]? = some (.cells #[v] 44 (0, 0)) ∧ W.ownsRow w.heap.size 32 1 v (8 * (j + 1)) ((gather (fun s c => s ++ [c.seen]) ws 0 (8 * (j + 1)) []).map wv)) ∧ w.grownBy W none ∧ Marks w.heap.size W W.heap.size ({ target := .collected D, args := #[] } :: ds) from by
          refine ⟨hL.dev, hL.fn, ?_, hL.grown, D, rfl, by omega, (Array.getElem?_eq_some_iff.1 hK).1, hK, hL.marks.up (by omega)⟩
          obtain ⟨v, h1, h2⟩ := hL.box
          refine ⟨v, h1, ?_⟩
          have e1 : (List.range 8).foldl (fun s x => s ++ [(ws.getD (8 * j + x) PW.nought).seen]) (gather (fun s c => s ++ [c.seen]) ws 0 (8 * j) []) = gather (fun s c => s ++ [c.seen]) ws 0 (8 * (j + 1)) [] := hline.out
          rw [e1, gather_len] at h2
          exact h2)
        gi_wp2
        refine ⟨⟨j + 1, _, _, _, _, _, _, _, _, ⟨by omega, hN2.out⟩, rfl⟩, ?_⟩
        simp [intOf]; omega
    · obtain rfl : j = N := by omega
      have hlt' : ¬ (j : Int) < (j : Int) := by omega
      obtain ⟨v, hv, ho⟩ := hB
      have cB : wr.cell? ⟨w.heap.size + 2, 0, none⟩ = some v := by unfold World.cell?; rw [hv]; rfl
      obtain ⟨ad, cap, rfl, _⟩ := row_slice ho
      have hrowv : ws.foldl (fun s (c : PW) => s ++ [c.seen]) [] = ws.map (·.seen) := by
        have : ∀ (ws : List PW) (s : List Nat), ws.foldl (fun s (c : PW) => s ++ [c.seen]) s = s ++ ws.map (·.seen) := by
          intro ws; induction ws with
          | nil => intro s; simp
          | cons c ws ih => intro s; rw [List.foldl_cons, ih]; simp
        simpa using this ws []
      have ho2 := Lib.hid (show wr.ownsRow w.heap.size 32 1 (.slice ad (8 * j) cap) n (ws.map fun c => wv c.seen) from by
        rw [gather_all _ ws [] (8 * j) (by rw [hn]; exact hN.out.symm), hrowv, List.map_map] at ho
        rw [hN.out]; exact ho)
      gi_wp2
      refine leaves_marks ds _ wr hM ?_
      intro w' hw'
      refine ⟨_, results_tmp rfl _ _ _, _, rfl, ?_, hw'.grown (Nat.le_refl _) hG⟩
      obtain ⟨hl1, hr1⟩ := ho2.out
      refine ⟨hl1, ?_⟩
      rcases hr1 with h1 | ⟨g', cap', cur, h1, h2, h3, h4⟩
      · exact .inl h1
      · exact .inr ⟨g', cap', cur, h1, h2, hw'.cells _ _ _ _ h3, h4⟩
end Go.Proofs.Ytimihchklecabaa
