/- DRAFT, not clean: Give (see NOTES 29). -/
import Derived.Test.YtclicjdgkcnihaaLocH
namespace Go.Proofs.Ytclicjdgkcnihaa
open Go.RowKit Go.Grommet Go.Shelf
attribute [local go_sem] Oper.semAt_some

set_option maxRecDepth 100000 in
set_option maxHeartbeats 1000000 in
theorem GiveH (j X m a : Nat) (f : Nat → Int) (w0 w : World) (Ps : List Pr) (h : Grommet.Own w0 w Ps) (hk : Ps[j]? = some (tabP X m f)) (ha : a < m) :
    Calls Try.prog 9 #[tptr X, .int .i64 (a : Int)] w fun e w' => e = .returned (.slice none 0 0) ∧ Grommet.Own w0 w' (Ps.set j (tabP X m (gh f a 70))) := by
  have hj := (List.getElem?_eq_some_iff.1 hk).1
  have hO1 := h.addBox 3 #[.int .i64 (a : Int)]
  have hk1 : (Ps ++ [boxP w.heap.size 3 #[.int .i64 (a : Int)]])[j]? = some (tabP X m f) := by rw [List.getElem?_append_left hj]; exact hk
  have HA := Lib.hid (has_yes _ X m f (hO1.box j hk1) a ha)
  obtain ⟨B, hB⟩ : ∃ B, w.heap.size = B := ⟨_, rfl⟩
  rw [hB] at hO1 hk1
  have hO1 : Hid (Grommet.Own w0 (w.alloc (.cells #[.int .i64 (a : Int)] 3)) (Ps.set j (tabP X m (gh f a 0)) ++ [boxP B 3 #[.int .i64 (a : Int)]])) := Lib.hid (by
    have e : gh f a 0 = f := by funext i; unfold gh; rw [if_neg (by omega)]
    rw [e, set_getSelf hk]; exact hO1)
  unfold tptr at HA ⊢
  clear h hk hk1 ha
  refine (callsIn_wide (n := 9)).1 ?_
  refine callsIn_of_wp_marks Try.func9 rfl trivial ?_ rfl
  simp only [Try.ntmps9, List.size_toArray, List.length_cons, List.length_nil, Nat.reduceAdd, Nat.reduceSub, Array.replicate_succ, Array.replicate_zero, List.push_toArray, List.append_toArray, List.nil_append, List.cons_append]
  gi_wp2_with fail
  refine ⟨trivial, (callsIn_wide.2 HA.out).mono ?_⟩
  rintro e w2 ⟨rfl, rfl⟩
  clear HA
  try rw [hB]
  clear hB
  gi_wp2_with fail
  gi_loopw [13] (fun p wr => ∃ k : Nat, k ≤ 70 ∧ p = .int .i64 (k : Int) ∧ Hid (Grommet.Own w0 wr (Ps.set j (tabP X m (gh f a k)) ++ [boxP B 3 #[.int .i64 (a : Int)]]))) (fun p _ => 70 - (intOf p).toNat)
  case atStart => exact ⟨0, Nat.zero_le _, rfl, hO1⟩
  case round =>
    clear hO1
    obtain ⟨k, hk, rfl, hO⟩ := hrel
    have k0 : (0 : Int) ≤ (k : Int) := by omega
    have hq : (Ps.set j (tabP X m (gh f a k)) ++ [boxP B 3 #[.int .i64 (a : Int)]])[j]? = some (tabP X m (gh f a k)) := by rw [List.getElem?_append_left (by rw [List.length_set]; exact hj), List.getElem?_set_self hj]
    have hqB : (Ps.set j (tabP X m (gh f a k)) ++ [boxP B 3 #[.int .i64 (a : Int)]])[Ps.length]? = some (boxP B 3 #[.int .i64 (a : Int)]) := by
      rw [List.getElem?_append_right (by rw [List.length_set]; exact Nat.le_refl _), List.length_set, Nat.sub_self]; rfl
    by_cases hlt : k < 70
    · have hlt' : (k : Int) < 70 := by omega
      have wk : IntKind.i64.wrap ((k : Int) + 1) = (k : Int) + 1 := IntWalk.i64_in _ ⟨by omega, by omega⟩
      have hT : TabIs wr X m (gh f a k) := hO.out.box j hq
      have c1 := hT.queue k hlt
      have z1 : wr.frozen? ⟨X, 1 + k * 2 + 1, none⟩ = false := by unfold TabIs at hT; simp [World.frozen?, hT]
      have hS := own_store_box hO.out j hq (1 + k * 2 + 1) (.slice none 0 0)
      rw [tabC_same m _ k hlt, show boxP X 49 (tabC m (gh f a k)) = tabP X m (gh f a k) from rfl, set_getSelf hq] at hS
      obtain ⟨W1, hW1⟩ : ∃ W1, wr.setCell ⟨X, 1 + k * 2 + 1, none⟩ (.slice none 0 0) = W1 := ⟨_, rfl⟩
      rw [hW1] at hS
      have hT1 : TabIs W1 X m (gh f a k) := hS.box j hq
      have d1 := hT1.holder k hlt
      rw [gh_at] at d1
      have d2 : W1.cell? ⟨B, 0, none⟩ = some (.int .i64 (a : Int)) := by have := hS.box Ps.length hqB; simp [World.cell?, this]
      have HD := Lib.hid (fun fn => DeleteFunc_nil wr fn)
      have Hk := Lib.hid hlt
      have HW1 := Lib.hid hW1
      obtain ⟨u, hu⟩ : ∃ u, f k = u := ⟨_, rfl⟩
      rw [hu] at d1
      by_cases hua : u = (a : Int)
      · have HS2 := Lib.hid (fun wx (hx : Grommet.Own w0 wx (Ps.set j (tabP X m (gh f a k)) ++ [boxP B 3 #[.int .i64 (a : Int)]])) => (show wx.frozen? ⟨X, 1 + k * 2, none⟩ = false ∧ Grommet.Own w0 (wx.setCell ⟨X, 1 + k * 2, none⟩ (.int .i64 (-1))) (Ps.set j (tabP X m (gh f a (k + 1))) ++ [boxP B 3 #[.int .i64 (a : Int)]]) by
          have h1 := hx.box j hq
          have h2 := own_store_box hx j hq (1 + k * 2) (.int .i64 (-1))
          rw [tabC_set m _ k (-1) hlt, gh_yes (by rw [hu]; exact hua), List.set_append_left _ _ (by rw [List.length_set]; exact hj), List.set_set] at h2
          exact ⟨by simp [World.frozen?, h1], h2⟩))
        have qa : (u == (a : Int)) = true := by rw [hua]; simp
        obtain ⟨z2, hF⟩ := HS2.out W1.drew (hS.quiet (grown_drew (World.grownBy.refl _ _)))
        have HF := Lib.hid hF
        clear hlt hk hO hT hT1 hW1 hu HS2 hS hF
        gi_wp2_with fail
        refine ⟨trivial, (callsIn_wide.2 (HD.out _)).mono ?_⟩
        rintro e w3 ⟨rfl, rfl⟩
        clear HD
        gi_wp2_with fail
        rw [HW1.out]
        clear HW1
        refine wpIn_region_any (by kernel_rfl) ?_
        change wpAnyIn _ _ _ _ _ _ _ _ _ (World.drew _)
        refine wpAnyIn_ready (rs := [0, 4]) (by kernel_rfl) (by simp) ?_
        refine AllReadyIn.cons (o := { dst := some 30, op := Op.move (Operand.tmp 6), type := 51, pos := "lock.go:103", after := #[], guard := none }) rfl (fun K hK => ?_) ?_
        · go_simp
          refine hK _ _ ?_; clear hK K
          try simp only [Act.put, List.setIfInBounds_toArray, List.set_cons_zero, List.set_cons_succ]
          refine wpAnyIn_ready (rs := [1, 4]) (by kernel_rfl) (by simp) ?_
          refine AllReadyIn.cons (o := { dst := some 31, op := Op.nilCheck (Operand.tmp 30), type := 0, pos := "lock.go:103", after := #[{ on := 0, ground := Ground.data }], guard := none }) rfl (fun K hK => ?_) ?_
          · go_simp
            refine hK _ _ ?_; clear hK K
            try simp only [Act.put, List.setIfInBounds_toArray, List.set_cons_zero, List.set_cons_succ]
            refine wpAnyIn_ready (rs := [2, 4]) (by kernel_rfl) (by simp) ?_
            refine AllReadyIn.cons (o := { dst := some 32, op := Op.fieldAddr 46 (Operand.tmp 31) 0, type := 0, pos := "lock.go:103", after := #[{ on := 1, ground := Ground.data }], guard := none }) rfl (fun K hK => ?_) ?_
            · go_simp
              refine hK _ _ ?_; clear hK K
              try simp only [Act.put, List.setIfInBounds_toArray, List.set_cons_zero, List.set_cons_succ]
              refine wpAnyIn_ready (rs := [3, 4]) (by kernel_rfl) (by simp) ?_
              refine AllReadyIn.cons (o := { dst := some 33, op := Op.load 3 (Operand.tmp 32), type := 3, pos := "lock.go:103", after := #[{ on := 2, ground := Ground.data }], guard := none }) rfl (fun K hK => ?_) ?_
              · go_simp
                refine hK _ _ ?_; clear hK K
                try simp only [Act.put, List.setIfInBounds_toArray, List.set_cons_zero, List.set_cons_succ]
                refine wpAnyIn_ready (rs := [4]) (by kernel_rfl) (by simp) ?_
                refine AllReadyIn.cons (o := { dst := some 34, op := Op.load 3 (Operand.tmp 3), type := 3, pos := "lock.go:103", after := #[], guard := none }) rfl (fun K hK => ?_) ?_
                · go_simp
                  refine hK _ _ ?_; clear hK K
                  try simp only [Act.put, List.setIfInBounds_toArray, List.set_cons_zero, List.set_cons_succ]
                  refine wpAnyIn_ready (rs := [5]) (by kernel_rfl) (by simp) ?_
                  refine AllReadyIn.cons (o := { dst := some 35, op := Op.binOp BinOp.eql 3 (Operand.tmp 33) (Operand.tmp 34) 3, type := 4, pos := "lock.go:103", after := #[{ on := 3, ground := Ground.data }, { on := 4, ground := Ground.data }], guard := none }) rfl (fun K hK => ?_) ?_
                  · go_simp
                    refine hK _ _ ?_; clear hK K
                    try simp only [Act.put, List.setIfInBounds_toArray, List.set_cons_zero, List.set_cons_succ]
                    refine wpAnyIn_done (by kernel_rfl) ?_ _
                    gi_wp2
                    go_roundw
                    case rel => exact ⟨k + 1, Hk.out, by go_num, Lib.hid HF.out⟩
                    case measure => have := Hk.out; simp [intOf]; omega
                  exact AllReadyIn.nil
                exact AllReadyIn.nil
              refine AllReadyIn.cons (o := { dst := some 34, op := Op.load 3 (Operand.tmp 3), type := 3, pos := "lock.go:103", after := #[], guard := none }) rfl (fun K hK => ?_) ?_
              · go_simp
                refine hK _ _ ?_; clear hK K
                try simp only [Act.put, List.setIfInBounds_toArray, List.set_cons_zero, List.set_cons_succ]
                refine wpAnyIn_ready (rs := [3]) (by kernel_rfl) (by simp) ?_
                refine AllReadyIn.cons (o := { dst := some 33, op := Op.load 3 (Operand.tmp 32), type := 3, pos := "lock.go:103", after := #[{ on := 2, ground := Ground.data }], guard := none }) rfl (fun K hK => ?_) ?_
                · go_simp
                  refine hK _ _ ?_; clear hK K
                  try simp only [Act.put, List.setIfInBounds_toArray, List.set_cons_zero, List.set_cons_succ]
                  refine wpAnyIn_ready (rs := [5]) (by kernel_rfl) (by simp) ?_
                  refine AllReadyIn.cons (o := { dst := some 35, op := Op.binOp BinOp.eql 3 (Operand.tmp 33) (Operand.tmp 34) 3, type := 4, pos := "lock.go:103", after := #[{ on := 3, ground := Ground.data }, { on := 4, ground := Ground.data }], guard := none }) rfl (fun K hK => ?_) ?_
                  · go_simp
                    refine hK _ _ ?_; clear hK K
                    try simp only [Act.put, List.setIfInBounds_toArray, List.set_cons_zero, List.set_cons_succ]
                    refine wpAnyIn_done (by kernel_rfl) ?_ _
                    gi_wp2
                    go_roundw
                    case rel => exact ⟨k + 1, Hk.out, by go_num, Lib.hid HF.out⟩
                    case measure => have := Hk.out; simp [intOf]; omega
                  exact AllReadyIn.nil
                exact AllReadyIn.nil
              exact AllReadyIn.nil
            refine AllReadyIn.cons (o := { dst := some 34, op := Op.load 3 (Operand.tmp 3), type := 3, pos := "lock.go:103", after := #[], guard := none }) rfl (fun K hK => ?_) ?_
            · go_simp
              refine hK _ _ ?_; clear hK K
              try simp only [Act.put, List.setIfInBounds_toArray, List.set_cons_zero, List.set_cons_succ]
              refine wpAnyIn_ready (rs := [2]) (by kernel_rfl) (by simp) ?_
              refine AllReadyIn.cons (o := { dst := some 32, op := Op.fieldAddr 46 (Operand.tmp 31) 0, type := 0, pos := "lock.go:103", after := #[{ on := 1, ground := Ground.data }], guard := none }) rfl (fun K hK => ?_) ?_
              · go_simp
                refine hK _ _ ?_; clear hK K
                try simp only [Act.put, List.setIfInBounds_toArray, List.set_cons_zero, List.set_cons_succ]
                refine wpAnyIn_ready (rs := [3]) (by kernel_rfl) (by simp) ?_
                refine AllReadyIn.cons (o := { dst := some 33, op := Op.load 3 (Operand.tmp 32), type := 3, pos := "lock.go:103", after := #[{ on := 2, ground := Ground.data }], guard := none }) rfl (fun K hK => ?_) ?_
                · go_simp
                  refine hK _ _ ?_; clear hK K
                  try simp only [Act.put, List.setIfInBounds_toArray, List.set_cons_zero, List.set_cons_succ]
                  refine wpAnyIn_ready (rs := [5]) (by kernel_rfl) (by simp) ?_
                  refine AllReadyIn.cons (o := { dst := some 35, op := Op.binOp BinOp.eql 3 (Operand.tmp 33) (Operand.tmp 34) 3, type := 4, pos := "lock.go:103", after := #[{ on := 3, ground := Ground.data }, { on := 4, ground := Ground.data }], guard := none }) rfl (fun K hK => ?_) ?_
                  · go_simp
                    refine hK _ _ ?_; clear hK K
                    try simp only [Act.put, List.setIfInBounds_toArray, List.set_cons_zero, List.set_cons_succ]
                    refine wpAnyIn_done (by kernel_rfl) ?_ _
                    gi_wp2
                    go_roundw
                    case rel => exact ⟨k + 1, Hk.out, by go_num, Lib.hid HF.out⟩
                    case measure => have := Hk.out; simp [intOf]; omega
                  exact AllReadyIn.nil
                exact AllReadyIn.nil
              exact AllReadyIn.nil
            exact AllReadyIn.nil
          refine AllReadyIn.cons (o := { dst := some 34, op := Op.load 3 (Operand.tmp 3), type := 3, pos := "lock.go:103", after := #[], guard := none }) rfl (fun K hK => ?_) ?_
          · go_simp
            refine hK _ _ ?_; clear hK K
            try simp only [Act.put, List.setIfInBounds_toArray, List.set_cons_zero, List.set_cons_succ]
            refine wpAnyIn_ready (rs := [1]) (by kernel_rfl) (by simp) ?_
            refine AllReadyIn.cons (o := { dst := some 31, op := Op.nilCheck (Operand.tmp 30), type := 0, pos := "lock.go:103", after := #[{ on := 0, ground := Ground.data }], guard := none }) rfl (fun K hK => ?_) ?_
            · go_simp
              refine hK _ _ ?_; clear hK K
              try simp only [Act.put, List.setIfInBounds_toArray, List.set_cons_zero, List.set_cons_succ]
              refine wpAnyIn_ready (rs := [2]) (by kernel_rfl) (by simp) ?_
              refine AllReadyIn.cons (o := { dst := some 32, op := Op.fieldAddr 46 (Operand.tmp 31) 0, type := 0, pos := "lock.go:103", after := #[{ on := 1, ground := Ground.data }], guard := none }) rfl (fun K hK => ?_) ?_
              · go_simp
                refine hK _ _ ?_; clear hK K
                try simp only [Act.put, List.setIfInBounds_toArray, List.set_cons_zero, List.set_cons_succ]
                refine wpAnyIn_ready (rs := [3]) (by kernel_rfl) (by simp) ?_
                refine AllReadyIn.cons (o := { dst := some 33, op := Op.load 3 (Operand.tmp 32), type := 3, pos := "lock.go:103", after := #[{ on := 2, ground := Ground.data }], guard := none }) rfl (fun K hK => ?_) ?_
                · go_simp
                  refine hK _ _ ?_; clear hK K
                  try simp only [Act.put, List.setIfInBounds_toArray, List.set_cons_zero, List.set_cons_succ]
                  refine wpAnyIn_ready (rs := [5]) (by kernel_rfl) (by simp) ?_
                  refine AllReadyIn.cons (o := { dst := some 35, op := Op.binOp BinOp.eql 3 (Operand.tmp 33) (Operand.tmp 34) 3, type := 4, pos := "lock.go:103", after := #[{ on := 3, ground := Ground.data }, { on := 4, ground := Ground.data }], guard := none }) rfl (fun K hK => ?_) ?_
                  · go_simp
                    refine hK _ _ ?_; clear hK K
                    try simp only [Act.put, List.setIfInBounds_toArray, List.set_cons_zero, List.set_cons_succ]
                    refine wpAnyIn_done (by kernel_rfl) ?_ _
                    gi_wp2
                    go_roundw
                    case rel => exact ⟨k + 1, Hk.out, by go_num, Lib.hid HF.out⟩
                    case measure => have := Hk.out; simp [intOf]; omega
                  exact AllReadyIn.nil
                exact AllReadyIn.nil
              exact AllReadyIn.nil
            exact AllReadyIn.nil
          exact AllReadyIn.nil
        refine AllReadyIn.cons (o := { dst := some 34, op := Op.load 3 (Operand.tmp 3), type := 3, pos := "lock.go:103", after := #[], guard := none }) rfl (fun K hK => ?_) ?_
        · go_simp
          refine hK _ _ ?_; clear hK K
          try simp only [Act.put, List.setIfInBounds_toArray, List.set_cons_zero, List.set_cons_succ]
          refine wpAnyIn_ready (rs := [0]) (by kernel_rfl) (by simp) ?_
          refine AllReadyIn.cons (o := { dst := some 30, op := Op.move (Operand.tmp 6), type := 51, pos := "lock.go:103", after := #[], guard := none }) rfl (fun K hK => ?_) ?_
          · go_simp
            refine hK _ _ ?_; clear hK K
            try simp only [Act.put, List.setIfInBounds_toArray, List.set_cons_zero, List.set_cons_succ]
            refine wpAnyIn_ready (rs := [1]) (by kernel_rfl) (by simp) ?_
            refine AllReadyIn.cons (o := { dst := some 31, op := Op.nilCheck (Operand.tmp 30), type := 0, pos := "lock.go:103", after := #[{ on := 0, ground := Ground.data }], guard := none }) rfl (fun K hK => ?_) ?_
            · go_simp
              refine hK _ _ ?_; clear hK K
              try simp only [Act.put, List.setIfInBounds_toArray, List.set_cons_zero, List.set_cons_succ]
              refine wpAnyIn_ready (rs := [2]) (by kernel_rfl) (by simp) ?_
              refine AllReadyIn.cons (o := { dst := some 32, op := Op.fieldAddr 46 (Operand.tmp 31) 0, type := 0, pos := "lock.go:103", after := #[{ on := 1, ground := Ground.data }], guard := none }) rfl (fun K hK => ?_) ?_
              · go_simp
                refine hK _ _ ?_; clear hK K
                try simp only [Act.put, List.setIfInBounds_toArray, List.set_cons_zero, List.set_cons_succ]
                refine wpAnyIn_ready (rs := [3]) (by kernel_rfl) (by simp) ?_
                refine AllReadyIn.cons (o := { dst := some 33, op := Op.load 3 (Operand.tmp 32), type := 3, pos := "lock.go:103", after := #[{ on := 2, ground := Ground.data }], guard := none }) rfl (fun K hK => ?_) ?_
                · go_simp
                  refine hK _ _ ?_; clear hK K
                  try simp only [Act.put, List.setIfInBounds_toArray, List.set_cons_zero, List.set_cons_succ]
                  refine wpAnyIn_ready (rs := [5]) (by kernel_rfl) (by simp) ?_
                  refine AllReadyIn.cons (o := { dst := some 35, op := Op.binOp BinOp.eql 3 (Operand.tmp 33) (Operand.tmp 34) 3, type := 4, pos := "lock.go:103", after := #[{ on := 3, ground := Ground.data }, { on := 4, ground := Ground.data }], guard := none }) rfl (fun K hK => ?_) ?_
                  · go_simp
                    refine hK _ _ ?_; clear hK K
                    try simp only [Act.put, List.setIfInBounds_toArray, List.set_cons_zero, List.set_cons_succ]
                    refine wpAnyIn_done (by kernel_rfl) ?_ _
                    gi_wp2
                    go_roundw
                    case rel => exact ⟨k + 1, Hk.out, by go_num, Lib.hid HF.out⟩
                    case measure => have := Hk.out; simp [intOf]; omega
                  exact AllReadyIn.nil
                exact AllReadyIn.nil
              exact AllReadyIn.nil
            exact AllReadyIn.nil
          exact AllReadyIn.nil
        exact AllReadyIn.nil
      · have qa : (u == (a : Int)) = false := by rw [beq_eq_false_iff_ne]; exact hua
        have hF : Grommet.Own w0 W1.drew (Ps.set j (tabP X m (gh f a (k + 1))) ++ [boxP B 3 #[.int .i64 (a : Int)]]) := by
          rw [← gh_no (by rw [hu]; exact hua)]; exact hS.quiet (grown_drew (World.grownBy.refl _ _))
        have HF := Lib.hid hF
        clear hlt hk hO hT hT1 hW1 hu hS hF
        gi_wp2_with fail
        refine ⟨trivial, (callsIn_wide.2 (HD.out _)).mono ?_⟩
        rintro e w3 ⟨rfl, rfl⟩
        clear HD
        gi_wp2_with fail
        rw [HW1.out]
        clear HW1
        refine wpIn_region_any (by kernel_rfl) ?_
        change wpAnyIn _ _ _ _ _ _ _ _ _ (World.drew _)
        refine wpAnyIn_ready (rs := [0, 4]) (by kernel_rfl) (by simp) ?_
        refine AllReadyIn.cons (o := { dst := some 30, op := Op.move (Operand.tmp 6), type := 51, pos := "lock.go:103", after := #[], guard := none }) rfl (fun K hK => ?_) ?_
        · go_simp
          refine hK _ _ ?_; clear hK K
          try simp only [Act.put, List.setIfInBounds_toArray, List.set_cons_zero, List.set_cons_succ]
          refine wpAnyIn_ready (rs := [1, 4]) (by kernel_rfl) (by simp) ?_
          refine AllReadyIn.cons (o := { dst := some 31, op := Op.nilCheck (Operand.tmp 30), type := 0, pos := "lock.go:103", after := #[{ on := 0, ground := Ground.data }], guard := none }) rfl (fun K hK => ?_) ?_
          · go_simp
            refine hK _ _ ?_; clear hK K
            try simp only [Act.put, List.setIfInBounds_toArray, List.set_cons_zero, List.set_cons_succ]
            refine wpAnyIn_ready (rs := [2, 4]) (by kernel_rfl) (by simp) ?_
            refine AllReadyIn.cons (o := { dst := some 32, op := Op.fieldAddr 46 (Operand.tmp 31) 0, type := 0, pos := "lock.go:103", after := #[{ on := 1, ground := Ground.data }], guard := none }) rfl (fun K hK => ?_) ?_
            · go_simp
              refine hK _ _ ?_; clear hK K
              try simp only [Act.put, List.setIfInBounds_toArray, List.set_cons_zero, List.set_cons_succ]
              refine wpAnyIn_ready (rs := [3, 4]) (by kernel_rfl) (by simp) ?_
              refine AllReadyIn.cons (o := { dst := some 33, op := Op.load 3 (Operand.tmp 32), type := 3, pos := "lock.go:103", after := #[{ on := 2, ground := Ground.data }], guard := none }) rfl (fun K hK => ?_) ?_
              · go_simp
                refine hK _ _ ?_; clear hK K
                try simp only [Act.put, List.setIfInBounds_toArray, List.set_cons_zero, List.set_cons_succ]
                refine wpAnyIn_ready (rs := [4]) (by kernel_rfl) (by simp) ?_
                refine AllReadyIn.cons (o := { dst := some 34, op := Op.load 3 (Operand.tmp 3), type := 3, pos := "lock.go:103", after := #[], guard := none }) rfl (fun K hK => ?_) ?_
                · go_simp
                  refine hK _ _ ?_; clear hK K
                  try simp only [Act.put, List.setIfInBounds_toArray, List.set_cons_zero, List.set_cons_succ]
                  refine wpAnyIn_ready (rs := [5]) (by kernel_rfl) (by simp) ?_
                  refine AllReadyIn.cons (o := { dst := some 35, op := Op.binOp BinOp.eql 3 (Operand.tmp 33) (Operand.tmp 34) 3, type := 4, pos := "lock.go:103", after := #[{ on := 3, ground := Ground.data }, { on := 4, ground := Ground.data }], guard := none }) rfl (fun K hK => ?_) ?_
                  · go_simp
                    refine hK _ _ ?_; clear hK K
                    try simp only [Act.put, List.setIfInBounds_toArray, List.set_cons_zero, List.set_cons_succ]
                    refine wpAnyIn_done (by kernel_rfl) ?_ _
                    gi_wp2
                    go_roundw
                    case rel => exact ⟨k + 1, Hk.out, by go_num, Lib.hid HF.out⟩
                    case measure => have := Hk.out; simp [intOf]; omega
                  exact AllReadyIn.nil
                exact AllReadyIn.nil
              refine AllReadyIn.cons (o := { dst := some 34, op := Op.load 3 (Operand.tmp 3), type := 3, pos := "lock.go:103", after := #[], guard := none }) rfl (fun K hK => ?_) ?_
              · go_simp
                refine hK _ _ ?_; clear hK K
                try simp only [Act.put, List.setIfInBounds_toArray, List.set_cons_zero, List.set_cons_succ]
                refine wpAnyIn_ready (rs := [3]) (by kernel_rfl) (by simp) ?_
                refine AllReadyIn.cons (o := { dst := some 33, op := Op.load 3 (Operand.tmp 32), type := 3, pos := "lock.go:103", after := #[{ on := 2, ground := Ground.data }], guard := none }) rfl (fun K hK => ?_) ?_
                · go_simp
                  refine hK _ _ ?_; clear hK K
                  try simp only [Act.put, List.setIfInBounds_toArray, List.set_cons_zero, List.set_cons_succ]
                  refine wpAnyIn_ready (rs := [5]) (by kernel_rfl) (by simp) ?_
                  refine AllReadyIn.cons (o := { dst := some 35, op := Op.binOp BinOp.eql 3 (Operand.tmp 33) (Operand.tmp 34) 3, type := 4, pos := "lock.go:103", after := #[{ on := 3, ground := Ground.data }, { on := 4, ground := Ground.data }], guard := none }) rfl (fun K hK => ?_) ?_
                  · go_simp
                    refine hK _ _ ?_; clear hK K
                    try simp only [Act.put, List.setIfInBounds_toArray, List.set_cons_zero, List.set_cons_succ]
                    refine wpAnyIn_done (by kernel_rfl) ?_ _
                    gi_wp2
                    go_roundw
                    case rel => exact ⟨k + 1, Hk.out, by go_num, Lib.hid HF.out⟩
                    case measure => have := Hk.out; simp [intOf]; omega
                  exact AllReadyIn.nil
                exact AllReadyIn.nil
              exact AllReadyIn.nil
            refine AllReadyIn.cons (o := { dst := some 34, op := Op.load 3 (Operand.tmp 3), type := 3, pos := "lock.go:103", after := #[], guard := none }) rfl (fun K hK => ?_) ?_
            · go_simp
              refine hK _ _ ?_; clear hK K
              try simp only [Act.put, List.setIfInBounds_toArray, List.set_cons_zero, List.set_cons_succ]
              refine wpAnyIn_ready (rs := [2]) (by kernel_rfl) (by simp) ?_
              refine AllReadyIn.cons (o := { dst := some 32, op := Op.fieldAddr 46 (Operand.tmp 31) 0, type := 0, pos := "lock.go:103", after := #[{ on := 1, ground := Ground.data }], guard := none }) rfl (fun K hK => ?_) ?_
              · go_simp
                refine hK _ _ ?_; clear hK K
                try simp only [Act.put, List.setIfInBounds_toArray, List.set_cons_zero, List.set_cons_succ]
                refine wpAnyIn_ready (rs := [3]) (by kernel_rfl) (by simp) ?_
                refine AllReadyIn.cons (o := { dst := some 33, op := Op.load 3 (Operand.tmp 32), type := 3, pos := "lock.go:103", after := #[{ on := 2, ground := Ground.data }], guard := none }) rfl (fun K hK => ?_) ?_
                · go_simp
                  refine hK _ _ ?_; clear hK K
                  try simp only [Act.put, List.setIfInBounds_toArray, List.set_cons_zero, List.set_cons_succ]
                  refine wpAnyIn_ready (rs := [5]) (by kernel_rfl) (by simp) ?_
                  refine AllReadyIn.cons (o := { dst := some 35, op := Op.binOp BinOp.eql 3 (Operand.tmp 33) (Operand.tmp 34) 3, type := 4, pos := "lock.go:103", after := #[{ on := 3, ground := Ground.data }, { on := 4, ground := Ground.data }], guard := none }) rfl (fun K hK => ?_) ?_
                  · go_simp
                    refine hK _ _ ?_; clear hK K
                    try simp only [Act.put, List.setIfInBounds_toArray, List.set_cons_zero, List.set_cons_succ]
                    refine wpAnyIn_done (by kernel_rfl) ?_ _
                    gi_wp2
                    go_roundw
                    case rel => exact ⟨k + 1, Hk.out, by go_num, Lib.hid HF.out⟩
                    case measure => have := Hk.out; simp [intOf]; omega
                  exact AllReadyIn.nil
                exact AllReadyIn.nil
              exact AllReadyIn.nil
            exact AllReadyIn.nil
          refine AllReadyIn.cons (o := { dst := some 34, op := Op.load 3 (Operand.tmp 3), type := 3, pos := "lock.go:103", after := #[], guard := none }) rfl (fun K hK => ?_) ?_
          · go_simp
            refine hK _ _ ?_; clear hK K
            try simp only [Act.put, List.setIfInBounds_toArray, List.set_cons_zero, List.set_cons_succ]
            refine wpAnyIn_ready (rs := [1]) (by kernel_rfl) (by simp) ?_
            refine AllReadyIn.cons (o := { dst := some 31, op := Op.nilCheck (Operand.tmp 30), type := 0, pos := "lock.go:103", after := #[{ on := 0, ground := Ground.data }], guard := none }) rfl (fun K hK => ?_) ?_
            · go_simp
              refine hK _ _ ?_; clear hK K
              try simp only [Act.put, List.setIfInBounds_toArray, List.set_cons_zero, List.set_cons_succ]
              refine wpAnyIn_ready (rs := [2]) (by kernel_rfl) (by simp) ?_
              refine AllReadyIn.cons (o := { dst := some 32, op := Op.fieldAddr 46 (Operand.tmp 31) 0, type := 0, pos := "lock.go:103", after := #[{ on := 1, ground := Ground.data }], guard := none }) rfl (fun K hK => ?_) ?_
              · go_simp
                refine hK _ _ ?_; clear hK K
                try simp only [Act.put, List.setIfInBounds_toArray, List.set_cons_zero, List.set_cons_succ]
                refine wpAnyIn_ready (rs := [3]) (by kernel_rfl) (by simp) ?_
                refine AllReadyIn.cons (o := { dst := some 33, op := Op.load 3 (Operand.tmp 32), type := 3, pos := "lock.go:103", after := #[{ on := 2, ground := Ground.data }], guard := none }) rfl (fun K hK => ?_) ?_
                · go_simp
                  refine hK _ _ ?_; clear hK K
                  try simp only [Act.put, List.setIfInBounds_toArray, List.set_cons_zero, List.set_cons_succ]
                  refine wpAnyIn_ready (rs := [5]) (by kernel_rfl) (by simp) ?_
                  refine AllReadyIn.cons (o := { dst := some 35, op := Op.binOp BinOp.eql 3 (Operand.tmp 33) (Operand.tmp 34) 3, type := 4, pos := "lock.go:103", after := #[{ on := 3, ground := Ground.data }, { on := 4, ground := Ground.data }], guard := none }) rfl (fun K hK => ?_) ?_
                  · go_simp
                    refine hK _ _ ?_; clear hK K
                    try simp only [Act.put, List.setIfInBounds_toArray, List.set_cons_zero, List.set_cons_succ]
                    refine wpAnyIn_done (by kernel_rfl) ?_ _
                    gi_wp2
                    go_roundw
                    case rel => exact ⟨k + 1, Hk.out, by go_num, Lib.hid HF.out⟩
                    case measure => have := Hk.out; simp [intOf]; omega
                  exact AllReadyIn.nil
                exact AllReadyIn.nil
              exact AllReadyIn.nil
            exact AllReadyIn.nil
          exact AllReadyIn.nil
        refine AllReadyIn.cons (o := { dst := some 34, op := Op.load 3 (Operand.tmp 3), type := 3, pos := "lock.go:103", after := #[], guard := none }) rfl (fun K hK => ?_) ?_
        · go_simp
          refine hK _ _ ?_; clear hK K
          try simp only [Act.put, List.setIfInBounds_toArray, List.set_cons_zero, List.set_cons_succ]
          refine wpAnyIn_ready (rs := [0]) (by kernel_rfl) (by simp) ?_
          refine AllReadyIn.cons (o := { dst := some 30, op := Op.move (Operand.tmp 6), type := 51, pos := "lock.go:103", after := #[], guard := none }) rfl (fun K hK => ?_) ?_
          · go_simp
            refine hK _ _ ?_; clear hK K
            try simp only [Act.put, List.setIfInBounds_toArray, List.set_cons_zero, List.set_cons_succ]
            refine wpAnyIn_ready (rs := [1]) (by kernel_rfl) (by simp) ?_
            refine AllReadyIn.cons (o := { dst := some 31, op := Op.nilCheck (Operand.tmp 30), type := 0, pos := "lock.go:103", after := #[{ on := 0, ground := Ground.data }], guard := none }) rfl (fun K hK => ?_) ?_
            · go_simp
              refine hK _ _ ?_; clear hK K
              try simp only [Act.put, List.setIfInBounds_toArray, List.set_cons_zero, List.set_cons_succ]
              refine wpAnyIn_ready (rs := [2]) (by kernel_rfl) (by simp) ?_
              refine AllReadyIn.cons (o := { dst := some 32, op := Op.fieldAddr 46 (Operand.tmp 31) 0, type := 0, pos := "lock.go:103", after := #[{ on := 1, ground := Ground.data }], guard := none }) rfl (fun K hK => ?_) ?_
              · go_simp
                refine hK _ _ ?_; clear hK K
                try simp only [Act.put, List.setIfInBounds_toArray, List.set_cons_zero, List.set_cons_succ]
                refine wpAnyIn_ready (rs := [3]) (by kernel_rfl) (by simp) ?_
                refine AllReadyIn.cons (o := { dst := some 33, op := Op.load 3 (Operand.tmp 32), type := 3, pos := "lock.go:103", after := #[{ on := 2, ground := Ground.data }], guard := none }) rfl (fun K hK => ?_) ?_
                · go_simp
                  refine hK _ _ ?_; clear hK K
                  try simp only [Act.put, List.setIfInBounds_toArray, List.set_cons_zero, List.set_cons_succ]
                  refine wpAnyIn_ready (rs := [5]) (by kernel_rfl) (by simp) ?_
                  refine AllReadyIn.cons (o := { dst := some 35, op := Op.binOp BinOp.eql 3 (Operand.tmp 33) (Operand.tmp 34) 3, type := 4, pos := "lock.go:103", after := #[{ on := 3, ground := Ground.data }, { on := 4, ground := Ground.data }], guard := none }) rfl (fun K hK => ?_) ?_
                  · go_simp
                    refine hK _ _ ?_; clear hK K
                    try simp only [Act.put, List.setIfInBounds_toArray, List.set_cons_zero, List.set_cons_succ]
                    refine wpAnyIn_done (by kernel_rfl) ?_ _
                    gi_wp2
                    go_roundw
                    case rel => exact ⟨k + 1, Hk.out, by go_num, Lib.hid HF.out⟩
                    case measure => have := Hk.out; simp [intOf]; omega
                  exact AllReadyIn.nil
                exact AllReadyIn.nil
              exact AllReadyIn.nil
            exact AllReadyIn.nil
          exact AllReadyIn.nil
        exact AllReadyIn.nil
    · obtain rfl : k = 70 := by omega
      have hlt2 : ¬ ((70 : Nat) : Int) < 70 := by omega
      have hT : TabIs wr X m (gh f a 70) := hO.out.box j hq
      have hXs := (Array.getElem?_eq_some_iff.1 hT).1
      clear hlt hk hq hqB
      gi_wp2_with fail
      refine ⟨trivial, (callsIn_wide.2 (free_any _ X)).mono ?_⟩
      rintro e w2 ⟨rfl, hw2⟩
      have g1 := World.grownBy_alloc wr (.cells #[.slice none 0 0] 30) none
      have g3 := World.grownBy_alloc (wr.alloc (.cells #[.slice none 0 0] 30)) (.cells #[.pointer (some ⟨X, 0, none⟩)] 24) none
      have g2 : wr.grownBy w2 none := by rw [hw2]; exact grown_trans g1 g3
      have hb : w2.heap[wr.heap.size + 1]? = some (.cells #[.pointer (some ⟨X, 0, none⟩)] 24 (0, 0)) := by
        have := heap_alloc_new (wr.alloc (.cells #[.slice none 0 0] 30)) (.cells #[.pointer (some ⟨X, 0, none⟩)] 24)
        rw [World.size_alloc] at this
        rw [hw2]; exact this
      have hn : w2.heap[wr.heap.size]? = some (.cells #[.slice none 0 0] 30 (0, 0)) := by
        rw [hw2]; exact (g3.block _ (by simp) (by simp)).trans (heap_alloc_new wr _)
      have hs2 : w2.heap.size = wr.heap.size + 2 := by rw [hw2]; simp
      have eb : (wr.alloc (.cells #[.slice none 0 0] 30)).heap.size = wr.heap.size + 1 := by simp
      have hX2 : TabIs w2 X m (gh f a 70) := (g2.block X hXs (by simp)).trans hT
      have HQ := Lib.hid (fun wx (hg : wr.grownBy wx none) => Own.less (hO.out.quiet hg))
      clear hw2 g1 g3 hO hT
      gi_wp2_with fail
      try rw [eb]
      clear eb
      have HG := Lib.hid (fun (wx wy : World) (h1 : w2.grownBy wx none) (h2 : AllBut wr.heap.size wx wy) => HQ.out wy (h2.grown (Nat.le_refl _) (grown_trans g2 h1)))
      clear HQ g2
      generalize wr.heap.size = B2 at *
      refine' wpIn_rangeFunc_ownF (α := Fin 70) rfl (by omega) (gf := 27) (lb := #[.pointer (some ⟨B2 + 1, 0, none⟩)]) rfl trivial (enters_of Try.func27 (by kernel_rfl) rfl)
        (free_stops 8 w2 (B2 + 1) X m (gh f a 70) hb hX2) (fun h k => h.trans k) (KeptT.put (by omega) (by omega)) (Below.refl _ _) (fun _ => rfl)
        (fun (_ : List (Fin 70)) W => w2.grownBy W none) (fun _ _ _ => False) ?own (fun _ _ _ _ _ hs _ _ => hs) (World.grownBy.refl _ _) _ ?assign ?body ?done ?stop
      case own =>
        intro pre W W' row hs hg hr
        exact grown_new hs hg (fun j e => (hr j e).1)
      case stop => intro _ _ _ _ _ _ h; exact h.elim
      case assign =>
        intro l x W K hK
        unfold encT
        gi_wp2
        exact hK
      case body =>
        rintro l pre x W hL hlen
        have hT3 : TabIs W X m (gh f a 70) := (hL.block X (by omega) (by simp)).trans hX2
        have c1 := hT3.queue x.1 x.2
        have hfin := Lib.hid (⟨KeepsOthers.of_grownBy (World.grownBy.refl W none) (fun j o e => by cases e), ⟨rfl, rfl⟩, hL⟩ : KeepsOthers W W ∧ KeptT (B2 + 1) X W W ∧ w2.grownBy W none)
        clear hL hT3 hX2 hb hn
        gi_wp2
        exact hfin.out
      case done =>
        intro D ys W hD hys hL hK
        have cB : W.cell? ⟨B2, 0, none⟩ = some (.slice none 0 0) := by have := (hL.block B2 (by omega) (by simp)).trans hn; simp [World.cell?, this]
        have HG2 := Lib.hid (fun wy h => HG.out W wy hL h)
        clear hL HG hX2 hb hn
        gi_wp2
        refine leaves_marks (B := B2) _ (D + 1) W ⟨D, rfl, by omega, by omega, hK, trivial⟩ ?_
        intro w' hw'
        exact ⟨_, results_tmp rfl _ _ _, rfl, HG2.out w' hw'⟩
end Go.Proofs.Ytclicjdgkcnihaa
