/- Package lock: Give, of any worker. -/
import Derived.Test.YtclicjdgkcnihaaLoqI
import Derived.Test.YtclicjdgkcnihaaLoqD2
import Derived.Test.YtclicjdgkcnihaaGoMath
namespace Go.Proofs.Ytclicjdgkcnihaa
open Go.RowKit Go.Grommet Go.Shelf
attribute [local go_sem] Oper.semAt_some

/-- The queues when a worker was taken out of the first k. -/
def wql (ql : Nat → List Nat) (a k : Nat) : Nat → List Nat := fun i => if i < k then without (ql i) a else ql i
theorem wql_zero (ql : Nat → List Nat) (a : Nat) : wql ql a 0 = ql := by funext i; unfold wql; rw [if_neg (Nat.not_lt_zero i)]
theorem wql_at (ql : Nat → List Nat) (a k : Nat) : wql ql a k k = ql k := by unfold wql; rw [if_neg (Nat.lt_irrefl k)]
theorem wql_step (ql : Nat → List Nat) (a k : Nat) : setl (wql ql a k) k (without (ql k) a) = wql ql a (k + 1) := by
  funext i; unfold setl wql
  by_cases h : i = k
  · subst h; rw [if_pos rfl, if_pos (Nat.lt_succ_self i)]
  · rw [if_neg h]
    by_cases h2 : i < k
    · rw [if_pos h2, if_pos (by omega)]
    · rw [if_neg h2, if_neg (by omega)]
theorem wql_all (X m : Nat) (f : Nat → Int) (q : Nat → Value) (ql : Nat → List Nat) (a : Nat) {Rs : List Pr} : TQ X m f q (wql ql a 70) Rs = TQ X m f q (fun k => without (ql k) a) Rs := by
  have e : QS q (wql ql a 70) = QS q (fun k => without (ql k) a) := by
    unfold QS
    refine List.map_congr_left (fun k hk => ?_)
    have := List.mem_range.1 hk
    show qrowP (q k) (wql ql a 70 k) = qrowP (q k) (without (ql k) a)
    unfold wql
    rw [if_pos this]
  unfold TQ
  rw [e]
/-- A queue that was filtered is stored back. -/
theorem give_store {w0 w w3 : World} {X m a k n3 c3 : Nat} {f : Nat → Int} {q : Nat → Value} {ql : Nat → List Nat} {Rs : List Pr} {ad3 : Option Addr} (hO : Grommet.Own w0 w (TQ X m f q (wql ql a k) Rs)) (hk : k < 70)
    (hq3 : QRow w3 (.slice ad3 n3 c3) (without (ql k) a)) (hg3 : w.grownBy w3 (q k).ownBlock) (hb3 : ∀ g, (Value.slice ad3 n3 c3).ownBlock = some g → (q k).ownBlock = some g) :
    ∃ W1, w3.setCell ⟨X, 1 + k * 2 + 1, none⟩ (.slice ad3 n3 c3) = W1 ∧ w3.frozen? ⟨X, 1 + k * 2 + 1, none⟩ = false ∧ (∃ u, w3.cell? ⟨X, 1 + k * 2 + 1, none⟩ = some u) ∧ Grommet.Own w0 W1 (TQ X m f (setq q k (.slice ad3 n3 c3)) (wql ql a (k + 1)) Rs) := by
  have hO3 := own_setQ hO (1 + k) (TQ_get X m f q (wql ql a k) Rs k hk) hq3 hg3 (fun g hg => .inl (hb3 g hg))
  have hj0 : ((TQ X m f q (wql ql a k) Rs).set (1 + k) (qrowP (.slice ad3 n3 c3) (without (ql k) a)))[0]? = some (tabP X m f q) := by rw [List.getElem?_set_ne (by omega)]; rfl
  have hT3 : TabIs w3 X m f q := hO3.box 0 hj0
  have hS := own_store_box hO3 0 hj0 (1 + k * 2 + 1) (.slice ad3 n3 c3)
  rw [tabC_setq m f q k _ hk, show boxP X 49 (tabC m f (setq q k (.slice ad3 n3 c3))) = tabP X m f (setq q k (.slice ad3 n3 c3)) from rfl, TQ_queue X m f q (wql ql a k) Rs k hk, wql_step] at hS
  refine ⟨_, rfl, ?_, ⟨_, hT3.queue k hk⟩, hS⟩
  unfold TabIs at hT3
  simp [World.frozen?, hT3]

set_option maxRecDepth 100000 in
set_option maxHeartbeats 4000000 in
theorem GiveAny (X m a : Nat) (f : Nat → Int) (q : Nat → Value) (ql : Nat → List Nat) (w0 w : World) (Rs : List Pr) (h : Grommet.Own w0 w (TQ X m f q ql Rs)) (ha : a < m) (hqn : ∀ k, k < 70 → (ql k).length ≤ 100000) :
    Calls Try.prog 9 #[tptr X, .int .i64 (a : Int)] w fun e w' => ∃ v q', e = .returned v ∧ Grommet.Own w0 w' (TQ X m (giveG f q' ql a).f (giveG f q' ql a).q (giveG f q' ql a).ql Rs) := by
  have hO1 := h.addBox 3 #[.int .i64 (a : Int)]
  have HA := Lib.hid (has_yes _ X m f q (hO1.box 0 rfl) a ha)
  obtain ⟨B, hB⟩ : ∃ B, w.heap.size = B := ⟨_, rfl⟩
  rw [hB] at hO1
  have hO1 : Hid (Grommet.Own w0 (w.alloc (.cells #[.int .i64 (a : Int)] 3)) (TQ X m (gh f a 0) q (wql ql a 0) (Rs ++ [boxP B 3 #[.int .i64 (a : Int)]]))) := Lib.hid (by
    have e : gh f a 0 = f := by funext i; unfold gh; rw [if_neg (by omega)]
    rw [e, wql_zero, ← TQ_app]; exact hO1)
  have HQN := Lib.hid hqn
  unfold tptr at HA ⊢
  clear h ha hqn
  refine (callsIn_wide (n := 9)).1 ?_
  refine callsIn_of_wp_marks Try.func9 rfl trivial ?_ rfl
  simp only [Try.ntmps9, List.size_toArray, List.length_cons, List.length_nil, Nat.reduceAdd, Nat.reduceSub, Array.replicate_succ, Array.replicate_zero, List.push_toArray, List.append_toArray, List.nil_append, List.cons_append]
  gi_wp2_with fail
  refine ⟨trivial, (callsIn_wide.2 HA.out).mono ?_⟩
  rintro e w2 ⟨rfl, rfl⟩
  clear HA
  try rw [hB]
  clear hB
  gi_wp2_with fail
  gi_loopw [13] (fun p wr => ∃ (k : Nat) (q' : Nat → Value), k ≤ 70 ∧ p = .int .i64 (k : Int) ∧ Hid (Grommet.Own w0 wr (TQ X m (gh f a k) q' (wql ql a k) (Rs ++ [boxP B 3 #[.int .i64 (a : Int)]])))) (fun p _ => 70 - (intOf p).toNat)
  case atStart => exact ⟨0, q, Nat.zero_le _, rfl, hO1⟩
  case round =>
    clear hO1
    obtain ⟨k, q', hk, rfl, hO⟩ := hrel
    have k0 : (0 : Int) ≤ (k : Int) := by omega
    have hqB : (TQ X m (gh f a k) q' (wql ql a k) (Rs ++ [boxP B 3 #[.int .i64 (a : Int)]]))[71 + Rs.length]? = some (boxP B 3 #[.int .i64 (a : Int)]) := by rw [TQ_rest]; exact lastP _ _
    by_cases hlt : k < 70
    · have hlt' : (k : Int) < 70 := by omega
      have wk : IntKind.i64.wrap ((k : Int) + 1) = (k : Int) + 1 := IntWalk.i64_in _ ⟨by omega, by omega⟩
      have hT : TabIs wr X m (gh f a k) q' := hO.out.box 0 rfl
      have c1 := hT.queue k hlt
      have hget := TQ_get X m (gh f a k) q' (wql ql a k) (Rs ++ [boxP B 3 #[.int .i64 (a : Int)]]) k hlt
      rw [wql_at] at hget
      have HD := Lib.hid (DeleteFunc_any wr (q' k) (ql k) B a (own_qrow hO.out _ hget) (HQN.out k hlt) (hO.out.box (71 + Rs.length) hqB) (fun e => own_apart hO.out hqB hget (by omega) B e rfl))
      unfold isV at HD
      have Hk := Lib.hid hlt
      obtain ⟨qa, qc, hv, _⟩ := (own_qrow hO.out _ hget).nums
      obtain ⟨qn, hqn⟩ : ∃ qn, (ql k).length = qn := ⟨_, rfl⟩
      rw [hqn] at hv
      rw [hv] at c1 HD
      rw [← hv] at HD
      have HDv := HD
      rw [hv] at HD
      obtain ⟨u, hu⟩ : ∃ u, f k = u := ⟨_, rfl⟩
      have Hu := Lib.hid hu
      have Hv := Lib.hid hv
      clear hget hqB hqn hv HDv
      by_cases hua : u = (a : Int)
      · have qa' : (u == (a : Int)) = true := by rw [hua]; simp
        have Hua := Lib.hid hua
        clear hua
        clear hlt hk hT hu
        gi_wp2_with fail
        refine ⟨trivial, (callsIn_wide.2 HD.out).mono ?_⟩
        rintro e w3 ⟨ad3, n3, c3, rfl, hq3, hg3, hb3⟩
        rw [← Hv.out] at hg3 hb3
        obtain ⟨W1, hW1, z1, ⟨u3, e3⟩, hS⟩ := give_store (Rs := Rs ++ [boxP B 3 #[.int .i64 (a : Int)]]) hO.out Hk.out hq3 hg3 hb3
        have hT1 : TabIs W1 X m (gh f a k) (setq q' k (.slice ad3 n3 c3)) := hS.box 0 rfl
        have d1 := hT1.holder k Hk.out
        rw [gh_at, Hu.out] at d1
        have d2 : W1.cell? ⟨B, 0, none⟩ = some (.int .i64 (a : Int)) := by have := hS.box (71 + Rs.length) (by rw [TQ_rest]; exact lastP _ _); simp [World.cell?, this]
        have HW1 := Lib.hid hW1
        have HS2 := Lib.hid (fun wx (hx : Grommet.Own w0 wx (TQ X m (gh f a k) (setq q' k (.slice ad3 n3 c3)) (wql ql a (k + 1)) (Rs ++ [boxP B 3 #[.int .i64 (a : Int)]]))) => (show wx.frozen? ⟨X, 1 + k * 2, none⟩ = false ∧ Grommet.Own w0 (wx.setCell ⟨X, 1 + k * 2, none⟩ (.int .i64 (-1))) (TQ X m (gh f a (k + 1)) (setq q' k (.slice ad3 n3 c3)) (wql ql a (k + 1)) (Rs ++ [boxP B 3 #[.int .i64 (a : Int)]])) by
          have h1 := hx.box 0 rfl
          have h2 := own_store_box hx 0 (TQ_tab X m (gh f a k) _ _ _) (1 + k * 2) (.int .i64 (-1))
          rw [tabC_set m _ _ k (-1) Hk.out, gh_yes (by rw [Hu.out]; exact Hua.out)] at h2
          exact ⟨by simp [World.frozen?, h1], h2⟩))
        obtain ⟨z2, hF⟩ := HS2.out W1.drew (hS.quiet (grown_drew (World.grownBy.refl _ _)))
        have HF := Lib.hid hF
        clear hO hT1 hW1 HS2 hS hF hq3 hg3 hb3 HD
        gi_wp2_with fail
        rw [HW1.out]
        clear HW1
        refine wpIn_region_any (by kernel_rfl) ?_
        change wpAnyIn _ _ _ _ _ _ _ _ _ (World.drew _)
        refine wpAnyIn_ready (rs := [0, 4]) (by kernel_rfl) (by simp) ?_
        refine AllReadyIn.cons (o := { dst := some 30, op := Op.move (Operand.tmp 6), type := 51, pos := "lock.go:103", after := #[], guard := none }) rfl (fun K hK => ?_) ?_
        · go_simp
          refine hK _ _ ?_; clear hK K
          try simp only [Act.put, List.setIfInBounds_toArray, List.set_cons_zero, List.set_cons_succ]
          refine wpAnyIn_ready (rs := [1, 4]) (by kernel_rfl) (by simp) ?_
          refine AllReadyIn.cons (o := { dst := some 31, op := Op.nilCheck (Operand.tmp 30), type := 0, pos := "lock.go:103", after := #[{ on := 0, ground := Ground.data }], guard := none }) rfl (fun K hK => ?_) ?_
          · go_simp
            refine hK _ _ ?_; clear hK K
            try simp only [Act.put, List.setIfInBounds_toArray, List.set_cons_zero, List.set_cons_succ]
            refine wpAnyIn_ready (rs := [2, 4]) (by kernel_rfl) (by simp) ?_
            refine AllReadyIn.cons (o := { dst := some 32, op := Op.fieldAddr 46 (Operand.tmp 31) 0, type := 0, pos := "lock.go:103", after := #[{ on := 1, ground := Ground.data }], guard := none }) rfl (fun K hK => ?_) ?_
            · go_simp
              refine hK _ _ ?_; clear hK K
              try simp only [Act.put, List.setIfInBounds_toArray, List.set_cons_zero, List.set_cons_succ]
              refine wpAnyIn_ready (rs := [3, 4]) (by kernel_rfl) (by simp) ?_
              refine AllReadyIn.cons (o := { dst := some 33, op := Op.load 3 (Operand.tmp 32), type := 3, pos := "lock.go:103", after := #[{ on := 2, ground := Ground.data }], guard := none }) rfl (fun K hK => ?_) ?_
              · go_simp
                refine hK _ _ ?_; clear hK K
                try simp only [Act.put, List.setIfInBounds_toArray, List.set_cons_zero, List.set_cons_succ]
                refine wpAnyIn_ready (rs := [4]) (by kernel_rfl) (by simp) ?_
                refine AllReadyIn.cons (o := { dst := some 34, op := Op.load 3 (Operand.tmp 3), type := 3, pos := "lock.go:103", after := #[], guard := none }) rfl (fun K hK => ?_) ?_
                · go_simp
                  refine hK _ _ ?_; clear hK K
                  try simp only [Act.put, List.setIfInBounds_toArray, List.set_cons_zero, List.set_cons_succ]
                  refine wpAnyIn_ready (rs := [5]) (by kernel_rfl) (by simp) ?_
                  refine AllReadyIn.cons (o := { dst := some 35, op := Op.binOp BinOp.eql 3 (Operand.tmp 33) (Operand.tmp 34) 3, type := 4, pos := "lock.go:103", after := #[{ on := 3, ground := Ground.data }, { on := 4, ground := Ground.data }], guard := none }) rfl (fun K hK => ?_) ?_
                  · go_simp
                    refine hK _ _ ?_; clear hK K
                    try simp only [Act.put, List.setIfInBounds_toArray, List.set_cons_zero, List.set_cons_succ]
                    refine wpAnyIn_done (by kernel_rfl) ?_ _
                    gi_wp2
                    go_roundw
                    case rel => exact ⟨k + 1, _, Hk.out, by go_num, Lib.hid HF.out⟩
                    case measure => have := Hk.out; simp [intOf]; omega
                  exact AllReadyIn.nil
                exact AllReadyIn.nil
              refine AllReadyIn.cons (o := { dst := some 34, op := Op.load 3 (Operand.tmp 3), type := 3, pos := "lock.go:103", after := #[], guard := none }) rfl (fun K hK => ?_) ?_
              · go_simp
                refine hK _ _ ?_; clear hK K
                try simp only [Act.put, List.setIfInBounds_toArray, List.set_cons_zero, List.set_cons_succ]
                refine wpAnyIn_ready (rs := [3]) (by kernel_rfl) (by simp) ?_
                refine AllReadyIn.cons (o := { dst := some 33, op := Op.load 3 (Operand.tmp 32), type := 3, pos := "lock.go:103", after := #[{ on := 2, ground := Ground.data }], guard := none }) rfl (fun K hK => ?_) ?_
                · go_simp
                  refine hK _ _ ?_; clear hK K
                  try simp only [Act.put, List.setIfInBounds_toArray, List.set_cons_zero, List.set_cons_succ]
                  refine wpAnyIn_ready (rs := [5]) (by kernel_rfl) (by simp) ?_
                  refine AllReadyIn.cons (o := { dst := some 35, op := Op.binOp BinOp.eql 3 (Operand.tmp 33) (Operand.tmp 34) 3, type := 4, pos := "lock.go:103", after := #[{ on := 3, ground := Ground.data }, { on := 4, ground := Ground.data }], guard := none }) rfl (fun K hK => ?_) ?_
                  · go_simp
                    refine hK _ _ ?_; clear hK K
                    try simp only [Act.put, List.setIfInBounds_toArray, List.set_cons_zero, List.set_cons_succ]
                    refine wpAnyIn_done (by kernel_rfl) ?_ _
                    gi_wp2
                    go_roundw
                    case rel => exact ⟨k + 1, _, Hk.out, by go_num, Lib.hid HF.out⟩
                    case measure => have := Hk.out; simp [intOf]; omega
                  exact AllReadyIn.nil
                exact AllReadyIn.nil
              exact AllReadyIn.nil
            refine AllReadyIn.cons (o := { dst := some 34, op := Op.load 3 (Operand.tmp 3), type := 3, pos := "lock.go:103", after := #[], guard := none }) rfl (fun K hK => ?_) ?_
            · go_simp
              refine hK _ _ ?_; clear hK K
              try simp only [Act.put, List.setIfInBounds_toArray, List.set_cons_zero, List.set_cons_succ]
              refine wpAnyIn_ready (rs := [2]) (by kernel_rfl) (by simp) ?_
              refine AllReadyIn.cons (o := { dst := some 32, op := Op.fieldAddr 46 (Operand.tmp 31) 0, type := 0, pos := "lock.go:103", after := #[{ on := 1, ground := Ground.data }], guard := none }) rfl (fun K hK => ?_) ?_
              · go_simp
                refine hK _ _ ?_; clear hK K
                try simp only [Act.put, List.setIfInBounds_toArray, List.set_cons_zero, List.set_cons_succ]
                refine wpAnyIn_ready (rs := [3]) (by kernel_rfl) (by simp) ?_
                refine AllReadyIn.cons (o := { dst := some 33, op := Op.load 3 (Operand.tmp 32), type := 3, pos := "lock.go:103", after := #[{ on := 2, ground := Ground.data }], guard := none }) rfl (fun K hK => ?_) ?_
                · go_simp
                  refine hK _ _ ?_; clear hK K
                  try simp only [Act.put, List.setIfInBounds_toArray, List.set_cons_zero, List.set_cons_succ]
                  refine wpAnyIn_ready (rs := [5]) (by kernel_rfl) (by simp) ?_
                  refine AllReadyIn.cons (o := { dst := some 35, op := Op.binOp BinOp.eql 3 (Operand.tmp 33) (Operand.tmp 34) 3, type := 4, pos := "lock.go:103", after := #[{ on := 3, ground := Ground.data }, { on := 4, ground := Ground.data }], guard := none }) rfl (fun K hK => ?_) ?_
                  · go_simp
                    refine hK _ _ ?_; clear hK K
                    try simp only [Act.put, List.setIfInBounds_toArray, List.set_cons_zero, List.set_cons_succ]
                    refine wpAnyIn_done (by kernel_rfl) ?_ _
                    gi_wp2
                    go_roundw
                    case rel => exact ⟨k + 1, _, Hk.out, by go_num, Lib.hid HF.out⟩
                    case measure => have := Hk.out; simp [intOf]; omega
                  exact AllReadyIn.nil
                exact AllReadyIn.nil
              exact AllReadyIn.nil
            exact AllReadyIn.nil
          refine AllReadyIn.cons (o := { dst := some 34, op := Op.load 3 (Operand.tmp 3), type := 3, pos := "lock.go:103", after := #[], guard := none }) rfl (fun K hK => ?_) ?_
          · go_simp
            refine hK _ _ ?_; clear hK K
            try simp only [Act.put, List.setIfInBounds_toArray, List.set_cons_zero, List.set_cons_succ]
            refine wpAnyIn_ready (rs := [1]) (by kernel_rfl) (by simp) ?_
            refine AllReadyIn.cons (o := { dst := some 31, op := Op.nilCheck (Operand.tmp 30), type := 0, pos := "lock.go:103", after := #[{ on := 0, ground := Ground.data }], guard := none }) rfl (fun K hK => ?_) ?_
            · go_simp
              refine hK _ _ ?_; clear hK K
              try simp only [Act.put, List.setIfInBounds_toArray, List.set_cons_zero, List.set_cons_succ]
              refine wpAnyIn_ready (rs := [2]) (by kernel_rfl) (by simp) ?_
              refine AllReadyIn.cons (o := { dst := some 32, op := Op.fieldAddr 46 (Operand.tmp 31) 0, type := 0, pos := "lock.go:103", after := #[{ on := 1, ground := Ground.data }], guard := none }) rfl (fun K hK => ?_) ?_
              · go_simp
                refine hK _ _ ?_; clear hK K
                try simp only [Act.put, List.setIfInBounds_toArray, List.set_cons_zero, List.set_cons_succ]
                refine wpAnyIn_ready (rs := [3]) (by kernel_rfl) (by simp) ?_
                refine AllReadyIn.cons (o := { dst := some 33, op := Op.load 3 (Operand.tmp 32), type := 3, pos := "lock.go:103", after := #[{ on := 2, ground := Ground.data }], guard := none }) rfl (fun K hK => ?_) ?_
                · go_simp
                  refine hK _ _ ?_; clear hK K
                  try simp only [Act.put, List.setIfInBounds_toArray, List.set_cons_zero, List.set_cons_succ]
                  refine wpAnyIn_ready (rs := [5]) (by kernel_rfl) (by simp) ?_
                  refine AllReadyIn.cons (o := { dst := some 35, op := Op.binOp BinOp.eql 3 (Operand.tmp 33) (Operand.tmp 34) 3, type := 4, pos := "lock.go:103", after := #[{ on := 3, ground := Ground.data }, { on := 4, ground := Ground.data }], guard := none }) rfl (fun K hK => ?_) ?_
                  · go_simp
                    refine hK _ _ ?_; clear hK K
                    try simp only [Act.put, List.setIfInBounds_toArray, List.set_cons_zero, List.set_cons_succ]
                    refine wpAnyIn_done (by kernel_rfl) ?_ _
                    gi_wp2
                    go_roundw
                    case rel => exact ⟨k + 1, _, Hk.out, by go_num, Lib.hid HF.out⟩
                    case measure => have := Hk.out; simp [intOf]; omega
                  exact AllReadyIn.nil
                exact AllReadyIn.nil
              exact AllReadyIn.nil
            exact AllReadyIn.nil
          exact AllReadyIn.nil
        refine AllReadyIn.cons (o := { dst := some 34, op := Op.load 3 (Operand.tmp 3), type := 3, pos := "lock.go:103", after := #[], guard := none }) rfl (fun K hK => ?_) ?_
        · go_simp
          refine hK _ _ ?_; clear hK K
          try simp only [Act.put, List.setIfInBounds_toArray, List.set_cons_zero, List.set_cons_succ]
          refine wpAnyIn_ready (rs := [0]) (by kernel_rfl) (by simp) ?_
          refine AllReadyIn.cons (o := { dst := some 30, op := Op.move (Operand.tmp 6), type := 51, pos := "lock.go:103", after := #[], guard := none }) rfl (fun K hK => ?_) ?_
          · go_simp
            refine hK _ _ ?_; clear hK K
            try simp only [Act.put, List.setIfInBounds_toArray, List.set_cons_zero, List.set_cons_succ]
            refine wpAnyIn_ready (rs := [1]) (by kernel_rfl) (by simp) ?_
            refine AllReadyIn.cons (o := { dst := some 31, op := Op.nilCheck (Operand.tmp 30), type := 0, pos := "lock.go:103", after := #[{ on := 0, ground := Ground.data }], guard := none }) rfl (fun K hK => ?_) ?_
            · go_simp
              refine hK _ _ ?_; clear hK K
              try simp only [Act.put, List.setIfInBounds_toArray, List.set_cons_zero, List.set_cons_succ]
              refine wpAnyIn_ready (rs := [2]) (by kernel_rfl) (by simp) ?_
              refine AllReadyIn.cons (o := { dst := some 32, op := Op.fieldAddr 46 (Operand.tmp 31) 0, type := 0, pos := "lock.go:103", after := #[{ on := 1, ground := Ground.data }], guard := none }) rfl (fun K hK => ?_) ?_
              · go_simp
                refine hK _ _ ?_; clear hK K
                try simp only [Act.put, List.setIfInBounds_toArray, List.set_cons_zero, List.set_cons_succ]
                refine wpAnyIn_ready (rs := [3]) (by kernel_rfl) (by simp) ?_
                refine AllReadyIn.cons (o := { dst := some 33, op := Op.load 3 (Operand.tmp 32), type := 3, pos := "lock.go:103", after := #[{ on := 2, ground := Ground.data }], guard := none }) rfl (fun K hK => ?_) ?_
                · go_simp
                  refine hK _ _ ?_; clear hK K
                  try simp only [Act.put, List.setIfInBounds_toArray, List.set_cons_zero, List.set_cons_succ]
                  refine wpAnyIn_ready (rs := [5]) (by kernel_rfl) (by simp) ?_
                  refine AllReadyIn.cons (o := { dst := some 35, op := Op.binOp BinOp.eql 3 (Operand.tmp 33) (Operand.tmp 34) 3, type := 4, pos := "lock.go:103", after := #[{ on := 3, ground := Ground.data }, { on := 4, ground := Ground.data }], guard := none }) rfl (fun K hK => ?_) ?_
                  · go_simp
                    refine hK _ _ ?_; clear hK K
                    try simp only [Act.put, List.setIfInBounds_toArray, List.set_cons_zero, List.set_cons_succ]
                    refine wpAnyIn_done (by kernel_rfl) ?_ _
                    gi_wp2
                    go_roundw
                    case rel => exact ⟨k + 1, _, Hk.out, by go_num, Lib.hid HF.out⟩
                    case measure => have := Hk.out; simp [intOf]; omega
                  exact AllReadyIn.nil
                exact AllReadyIn.nil
              exact AllReadyIn.nil
            exact AllReadyIn.nil
          exact AllReadyIn.nil
        exact AllReadyIn.nil
      · have qa' : (u == (a : Int)) = false := by rw [beq_eq_false_iff_ne]; exact hua
        have Hua := Lib.hid hua
        clear hua
        clear hlt hk hT hu
        gi_wp2_with fail
        refine ⟨trivial, (callsIn_wide.2 HD.out).mono ?_⟩
        rintro e w3 ⟨ad3, n3, c3, rfl, hq3, hg3, hb3⟩
        rw [← Hv.out] at hg3 hb3
        obtain ⟨W1, hW1, z1, ⟨u3, e3⟩, hS⟩ := give_store (Rs := Rs ++ [boxP B 3 #[.int .i64 (a : Int)]]) hO.out Hk.out hq3 hg3 hb3
        have hT1 : TabIs W1 X m (gh f a k) (setq q' k (.slice ad3 n3 c3)) := hS.box 0 rfl
        have d1 := hT1.holder k Hk.out
        rw [gh_at, Hu.out] at d1
        have d2 : W1.cell? ⟨B, 0, none⟩ = some (.int .i64 (a : Int)) := by have := hS.box (71 + Rs.length) (by rw [TQ_rest]; exact lastP _ _); simp [World.cell?, this]
        have HW1 := Lib.hid hW1
        have hF : Grommet.Own w0 W1.drew (TQ X m (gh f a (k + 1)) (setq q' k (.slice ad3 n3 c3)) (wql ql a (k + 1)) (Rs ++ [boxP B 3 #[.int .i64 (a : Int)]])) := by
          rw [← gh_no (by rw [Hu.out]; exact Hua.out)]; exact hS.quiet (grown_drew (World.grownBy.refl _ _))
        have HF := Lib.hid hF
        clear hO hT1 hW1 hS hF hq3 hg3 hb3 HD
        gi_wp2_with fail
        rw [HW1.out]
        clear HW1
        refine wpIn_region_any (by kernel_rfl) ?_
        change wpAnyIn _ _ _ _ _ _ _ _ _ (World.drew _)
        refine wpAnyIn_ready (rs := [0, 4]) (by kernel_rfl) (by simp) ?_
        refine AllReadyIn.cons (o := { dst := some 30, op := Op.move (Operand.tmp 6), type := 51, pos := "lock.go:103", after := #[], guard := none }) rfl (fun K hK => ?_) ?_
        · go_simp
          refine hK _ _ ?_; clear hK K
          try simp only [Act.put, List.setIfInBounds_toArray, List.set_cons_zero, List.set_cons_succ]
          refine wpAnyIn_ready (rs := [1, 4]) (by kernel_rfl) (by simp) ?_
          refine AllReadyIn.cons (o := { dst := some 31, op := Op.nilCheck (Operand.tmp 30), type := 0, pos := "lock.go:103", after := #[{ on := 0, ground := Ground.data }], guard := none }) rfl (fun K hK => ?_) ?_
          · go_simp
            refine hK _ _ ?_; clear hK K
            try simp only [Act.put, List.setIfInBounds_toArray, List.set_cons_zero, List.set_cons_succ]
            refine wpAnyIn_ready (rs := [2, 4]) (by kernel_rfl) (by simp) ?_
            refine AllReadyIn.cons (o := { dst := some 32, op := Op.fieldAddr 46 (Operand.tmp 31) 0, type := 0, pos := "lock.go:103", after := #[{ on := 1, ground := Ground.data }], guard := none }) rfl (fun K hK => ?_) ?_
            · go_simp
              refine hK _ _ ?_; clear hK K
              try simp only [Act.put, List.setIfInBounds_toArray, List.set_cons_zero, List.set_cons_succ]
              refine wpAnyIn_ready (rs := [3, 4]) (by kernel_rfl) (by simp) ?_
              refine AllReadyIn.cons (o := { dst := some 33, op := Op.load 3 (Operand.tmp 32), type := 3, pos := "lock.go:103", after := #[{ on := 2, ground := Ground.data }], guard := none }) rfl (fun K hK => ?_) ?_
              · go_simp
                refine hK _ _ ?_; clear hK K
                try simp only [Act.put, List.setIfInBounds_toArray, List.set_cons_zero, List.set_cons_succ]
                refine wpAnyIn_ready (rs := [4]) (by kernel_rfl) (by simp) ?_
                refine AllReadyIn.cons (o := { dst := some 34, op := Op.load 3 (Operand.tmp 3), type := 3, pos := "lock.go:103", after := #[], guard := none }) rfl (fun K hK => ?_) ?_
                · go_simp
                  refine hK _ _ ?_; clear hK K
                  try simp only [Act.put, List.setIfInBounds_toArray, List.set_cons_zero, List.set_cons_succ]
                  refine wpAnyIn_ready (rs := [5]) (by kernel_rfl) (by simp) ?_
                  refine AllReadyIn.cons (o := { dst := some 35, op := Op.binOp BinOp.eql 3 (Operand.tmp 33) (Operand.tmp 34) 3, type := 4, pos := "lock.go:103", after := #[{ on := 3, ground := Ground.data }, { on := 4, ground := Ground.data }], guard := none }) rfl (fun K hK => ?_) ?_
                  · go_simp
                    refine hK _ _ ?_; clear hK K
                    try simp only [Act.put, List.setIfInBounds_toArray, List.set_cons_zero, List.set_cons_succ]
                    refine wpAnyIn_done (by kernel_rfl) ?_ _
                    gi_wp2
                    go_roundw
                    case rel => exact ⟨k + 1, _, Hk.out, by go_num, Lib.hid HF.out⟩
                    case measure => have := Hk.out; simp [intOf]; omega
                  exact AllReadyIn.nil
                exact AllReadyIn.nil
              refine AllReadyIn.cons (o := { dst := some 34, op := Op.load 3 (Operand.tmp 3), type := 3, pos := "lock.go:103", after := #[], guard := none }) rfl (fun K hK => ?_) ?_
              · go_simp
                refine hK _ _ ?_; clear hK K
                try simp only [Act.put, List.setIfInBounds_toArray, List.set_cons_zero, List.set_cons_succ]
                refine wpAnyIn_ready (rs := [3]) (by kernel_rfl) (by simp) ?_
                refine AllReadyIn.cons (o := { dst := some 33, op := Op.load 3 (Operand.tmp 32), type := 3, pos := "lock.go:103", after := #[{ on := 2, ground := Ground.data }], guard := none }) rfl (fun K hK => ?_) ?_
                · go_simp
                  refine hK _ _ ?_; clear hK K
                  try simp only [Act.put, List.setIfInBounds_toArray, List.set_cons_zero, List.set_cons_succ]
                  refine wpAnyIn_ready (rs := [5]) (by kernel_rfl) (by simp) ?_
                  refine AllReadyIn.cons (o := { dst := some 35, op := Op.binOp BinOp.eql 3 (Operand.tmp 33) (Operand.tmp 34) 3, type := 4, pos := "lock.go:103", after := #[{ on := 3, ground := Ground.data }, { on := 4, ground := Ground.data }], guard := none }) rfl (fun K hK => ?_) ?_
                  · go_simp
                    refine hK _ _ ?_; clear hK K
                    try simp only [Act.put, List.setIfInBounds_toArray, List.set_cons_zero, List.set_cons_succ]
                    refine wpAnyIn_done (by kernel_rfl) ?_ _
                    gi_wp2
                    go_roundw
                    case rel => exact ⟨k + 1, _, Hk.out, by go_num, Lib.hid HF.out⟩
                    case measure => have := Hk.out; simp [intOf]; omega
                  exact AllReadyIn.nil
                exact AllReadyIn.nil
              exact AllReadyIn.nil
            refine AllReadyIn.cons (o := { dst := some 34, op := Op.load 3 (Operand.tmp 3), type := 3, pos := "lock.go:103", after := #[], guard := none }) rfl (fun K hK => ?_) ?_
            · go_simp
              refine hK _ _ ?_; clear hK K
              try simp only [Act.put, List.setIfInBounds_toArray, List.set_cons_zero, List.set_cons_succ]
              refine wpAnyIn_ready (rs := [2]) (by kernel_rfl) (by simp) ?_
              refine AllReadyIn.cons (o := { dst := some 32, op := Op.fieldAddr 46 (Operand.tmp 31) 0, type := 0, pos := "lock.go:103", after := #[{ on := 1, ground := Ground.data }], guard := none }) rfl (fun K hK => ?_) ?_
              · go_simp
                refine hK _ _ ?_; clear hK K
                try simp only [Act.put, List.setIfInBounds_toArray, List.set_cons_zero, List.set_cons_succ]
                refine wpAnyIn_ready (rs := [3]) (by kernel_rfl) (by simp) ?_
                refine AllReadyIn.cons (o := { dst := some 33, op := Op.load 3 (Operand.tmp 32), type := 3, pos := "lock.go:103", after := #[{ on := 2, ground := Ground.data }], guard := none }) rfl (fun K hK => ?_) ?_
                · go_simp
                  refine hK _ _ ?_; clear hK K
                  try simp only [Act.put, List.setIfInBounds_toArray, List.set_cons_zero, List.set_cons_succ]
                  refine wpAnyIn_ready (rs := [5]) (by kernel_rfl) (by simp) ?_
                  refine AllReadyIn.cons (o := { dst := some 35, op := Op.binOp BinOp.eql 3 (Operand.tmp 33) (Operand.tmp 34) 3, type := 4, pos := "lock.go:103", after := #[{ on := 3, ground := Ground.data }, { on := 4, ground := Ground.data }], guard := none }) rfl (fun K hK => ?_) ?_
                  · go_simp
                    refine hK _ _ ?_; clear hK K
                    try simp only [Act.put, List.setIfInBounds_toArray, List.set_cons_zero, List.set_cons_succ]
                    refine wpAnyIn_done (by kernel_rfl) ?_ _
                    gi_wp2
                    go_roundw
                    case rel => exact ⟨k + 1, _, Hk.out, by go_num, Lib.hid HF.out⟩
                    case measure => have := Hk.out; simp [intOf]; omega
                  exact AllReadyIn.nil
                exact AllReadyIn.nil
              exact AllReadyIn.nil
            exact AllReadyIn.nil
          refine AllReadyIn.cons (o := { dst := some 34, op := Op.load 3 (Operand.tmp 3), type := 3, pos := "lock.go:103", after := #[], guard := none }) rfl (fun K hK => ?_) ?_
          · go_simp
            refine hK _ _ ?_; clear hK K
            try simp only [Act.put, List.setIfInBounds_toArray, List.set_cons_zero, List.set_cons_succ]
            refine wpAnyIn_ready (rs := [1]) (by kernel_rfl) (by simp) ?_
            refine AllReadyIn.cons (o := { dst := some 31, op := Op.nilCheck (Operand.tmp 30), type := 0, pos := "lock.go:103", after := #[{ on := 0, ground := Ground.data }], guard := none }) rfl (fun K hK => ?_) ?_
            · go_simp
              refine hK _ _ ?_; clear hK K
              try simp only [Act.put, List.setIfInBounds_toArray, List.set_cons_zero, List.set_cons_succ]
              refine wpAnyIn_ready (rs := [2]) (by kernel_rfl) (by simp) ?_
              refine AllReadyIn.cons (o := { dst := some 32, op := Op.fieldAddr 46 (Operand.tmp 31) 0, type := 0, pos := "lock.go:103", after := #[{ on := 1, ground := Ground.data }], guard := none }) rfl (fun K hK => ?_) ?_
              · go_simp
                refine hK _ _ ?_; clear hK K
                try simp only [Act.put, List.setIfInBounds_toArray, List.set_cons_zero, List.set_cons_succ]
                refine wpAnyIn_ready (rs := [3]) (by kernel_rfl) (by simp) ?_
                refine AllReadyIn.cons (o := { dst := some 33, op := Op.load 3 (Operand.tmp 32), type := 3, pos := "lock.go:103", after := #[{ on := 2, ground := Ground.data }], guard := none }) rfl (fun K hK => ?_) ?_
                · go_simp
                  refine hK _ _ ?_; clear hK K
                  try simp only [Act.put, List.setIfInBounds_toArray, List.set_cons_zero, List.set_cons_succ]
                  refine wpAnyIn_ready (rs := [5]) (by kernel_rfl) (by simp) ?_
                  refine AllReadyIn.cons (o := { dst := some 35, op := Op.binOp BinOp.eql 3 (Operand.tmp 33) (Operand.tmp 34) 3, type := 4, pos := "lock.go:103", after := #[{ on := 3, ground := Ground.data }, { on := 4, ground := Ground.data }], guard := none }) rfl (fun K hK => ?_) ?_
                  · go_simp
                    refine hK _ _ ?_; clear hK K
                    try simp only [Act.put, List.setIfInBounds_toArray, List.set_cons_zero, List.set_cons_succ]
                    refine wpAnyIn_done (by kernel_rfl) ?_ _
                    gi_wp2
                    go_roundw
                    case rel => exact ⟨k + 1, _, Hk.out, by go_num, Lib.hid HF.out⟩
                    case measure => have := Hk.out; simp [intOf]; omega
                  exact AllReadyIn.nil
                exact AllReadyIn.nil
              exact AllReadyIn.nil
            exact AllReadyIn.nil
          exact AllReadyIn.nil
        refine AllReadyIn.cons (o := { dst := some 34, op := Op.load 3 (Operand.tmp 3), type := 3, pos := "lock.go:103", after := #[], guard := none }) rfl (fun K hK => ?_) ?_
        · go_simp
          refine hK _ _ ?_; clear hK K
          try simp only [Act.put, List.setIfInBounds_toArray, List.set_cons_zero, List.set_cons_succ]
          refine wpAnyIn_ready (rs := [0]) (by kernel_rfl) (by simp) ?_
          refine AllReadyIn.cons (o := { dst := some 30, op := Op.move (Operand.tmp 6), type := 51, pos := "lock.go:103", after := #[], guard := none }) rfl (fun K hK => ?_) ?_
          · go_simp
            refine hK _ _ ?_; clear hK K
            try simp only [Act.put, List.setIfInBounds_toArray, List.set_cons_zero, List.set_cons_succ]
            refine wpAnyIn_ready (rs := [1]) (by kernel_rfl) (by simp) ?_
            refine AllReadyIn.cons (o := { dst := some 31, op := Op.nilCheck (Operand.tmp 30), type := 0, pos := "lock.go:103", after := #[{ on := 0, ground := Ground.data }], guard := none }) rfl (fun K hK => ?_) ?_
            · go_simp
              refine hK _ _ ?_; clear hK K
              try simp only [Act.put, List.setIfInBounds_toArray, List.set_cons_zero, List.set_cons_succ]
              refine wpAnyIn_ready (rs := [2]) (by kernel_rfl) (by simp) ?_
              refine AllReadyIn.cons (o := { dst := some 32, op := Op.fieldAddr 46 (Operand.tmp 31) 0, type := 0, pos := "lock.go:103", after := #[{ on := 1, ground := Ground.data }], guard := none }) rfl (fun K hK => ?_) ?_
              · go_simp
                refine hK _ _ ?_; clear hK K
                try simp only [Act.put, List.setIfInBounds_toArray, List.set_cons_zero, List.set_cons_succ]
                refine wpAnyIn_ready (rs := [3]) (by kernel_rfl) (by simp) ?_
                refine AllReadyIn.cons (o := { dst := some 33, op := Op.load 3 (Operand.tmp 32), type := 3, pos := "lock.go:103", after := #[{ on := 2, ground := Ground.data }], guard := none }) rfl (fun K hK => ?_) ?_
                · go_simp
                  refine hK _ _ ?_; clear hK K
                  try simp only [Act.put, List.setIfInBounds_toArray, List.set_cons_zero, List.set_cons_succ]
                  refine wpAnyIn_ready (rs := [5]) (by kernel_rfl) (by simp) ?_
                  refine AllReadyIn.cons (o := { dst := some 35, op := Op.binOp BinOp.eql 3 (Operand.tmp 33) (Operand.tmp 34) 3, type := 4, pos := "lock.go:103", after := #[{ on := 3, ground := Ground.data }, { on := 4, ground := Ground.data }], guard := none }) rfl (fun K hK => ?_) ?_
                  · go_simp
                    refine hK _ _ ?_; clear hK K
                    try simp only [Act.put, List.setIfInBounds_toArray, List.set_cons_zero, List.set_cons_succ]
                    refine wpAnyIn_done (by kernel_rfl) ?_ _
                    gi_wp2
                    go_roundw
                    case rel => exact ⟨k + 1, _, Hk.out, by go_num, Lib.hid HF.out⟩
                    case measure => have := Hk.out; simp [intOf]; omega
                  exact AllReadyIn.nil
                exact AllReadyIn.nil
              exact AllReadyIn.nil
            exact AllReadyIn.nil
          exact AllReadyIn.nil
        exact AllReadyIn.nil
    · obtain rfl : k = 70 := by omega
      have hlt2 : ¬ ((70 : Nat) : Int) < 70 := by omega
      obtain ⟨qd, hqd⟩ : ∃ qd : Nat → List Nat, qd = fun k => without (ql k) a := ⟨_, rfl⟩
      have hO9 : Grommet.Own w0 wr (TQ X m (gh f a 70) q' qd Rs) := Own.less (Qs := [boxP B 3 #[.int .i64 (a : Int)]]) (by rw [TQ_app, hqd, ← wql_all X m (gh f a 70) q' ql a]; exact hO.out)
      have hT : TabIs wr X m (gh f a 70) q' := hO9.box 0 rfl
      have hXs := (Array.getElem?_eq_some_iff.1 hT).1
      have hrows : ∀ k, k < 70 → QRow wr (q' k) (qd k) := fun k hk => own_qrow hO9 _ (TQ_get X m (gh f a 70) q' qd Rs k hk)
      have hapart : ∀ k, k < 70 → ∀ g, (q' k).ownBlock = some g → g ≠ X := fun k hk => own_apart hO9 (i := 0) (k := 1 + k) (TQ_tab X m (gh f a 70) q' qd Rs) (TQ_get X m (gh f a 70) q' qd Rs k hk) (by omega)
      clear hlt hk hqB hO
      gi_wp2_with fail
      refine ⟨trivial, (callsIn_wide.2 (free_any _ X)).mono ?_⟩
      rintro e w2 ⟨rfl, hw2⟩
      have g1 := World.grownBy_alloc wr (.cells #[.slice none 0 0] 30) none
      have g3 := World.grownBy_alloc (wr.alloc (.cells #[.slice none 0 0] 30)) (.cells #[.pointer (some ⟨X, 0, none⟩)] 24) none
      have g2 : wr.grownBy w2 none := by rw [hw2]; exact grown_trans g1 g3
      have hb : w2.heap[wr.heap.size + 1]? = some (.cells #[.pointer (some ⟨X, 0, none⟩)] 24 (0, 0)) := by
        have := heap_alloc_new (wr.alloc (.cells #[.slice none 0 0] 30)) (.cells #[.pointer (some ⟨X, 0, none⟩)] 24)
        rw [World.size_alloc] at this
        rw [hw2]; exact this
      have hn : w2.heap[wr.heap.size]? = some (.cells #[.slice none 0 0] 30 (0, 0)) := by
        rw [hw2]; exact (g3.block _ (by simp) (by simp)).trans (heap_alloc_new wr _)
      have hs2 : w2.heap.size = wr.heap.size + 2 := by rw [hw2]; simp
      have eb : (wr.alloc (.cells #[.slice none 0 0] 30)).heap.size = wr.heap.size + 1 := by simp
      have hC : GvI wr X m wr.heap.size q' { f := gh f a 70, q := q', ql := qd, nx := [] } w2 := ⟨(g2.block X hXs (by simp)).trans hT, ⟨none, 0, hn, ⟨rfl, .inl ⟨rfl, rfl⟩⟩⟩, Turn.of g2 (fun _ e => by cases e), by omega, fun k hk => ⟨hrows k hk, fun g hg => hg⟩⟩
      have HE := Lib.hid (fun (s : St) W (h : GvI wr X m wr.heap.size q' s W) => h.done hO9)
      clear hw2 g1 g3 hO9 hT hrows hn
      gi_wp2_with fail
      try rw [eb]
      clear eb
      generalize hB2 : wr.heap.size = B2 at *
      obtain ⟨s0, hs0⟩ : ∃ s0 : St, s0 = { f := gh f a 70, q := q', ql := qd, nx := [] } := ⟨_, rfl⟩
      have HG0 := Lib.hid (show giveG f q' ql a = runS s0 (freeL s0.f 70) ∧ s0.nx.length = 0 by rw [hs0, hqd]; exact ⟨rfl, rfl⟩)
      rw [← hs0] at hC
      clear hs0
      refine' wpIn_range_seq (α := Fin 70) rfl (by omega) (gf := 27) (lb := #[.pointer (some ⟨B2 + 1, 0, none⟩)]) rfl trivial (enters_of Try.func27 (by kernel_rfl) rfl) (encs := encT X)
        (free_seq 8 w2 (B2 + 1) X m s0 hb) (fun _ _ h => h.elim) (fun h k => h.trans k) (KeptB.put (by omega)) (Below.refl _ _) (fun _ => rfl)
        (fun pre W => GvI wr X m B2 q' (runS s0 pre) W) (fun _ _ _ => False) ?own (fun _ _ _ _ _ hs _ _ => hs) (fun _ _ _ _ h => h.elim) (fun _ _ h => h.tab) hC _ ?assign ?body ?done ?stop
      case own => rw [hs2]; exact GvI.own hB2 hXs
      case stop => intro _ _ _ _ _ _ h; exact h.elim
      case assign =>
        intro l x W K hK
        unfold encT
        gi_wp2
        exact hK
      case body =>
        rintro l pre ⟨k, hk⟩ W hL hlen
        have hnl := runS_len s0 pre
        rw [HG0.out.2] at hnl
        have hstep : Hid (runS s0 (pre ++ [(⟨k, hk⟩ : Fin 70)]) = stepS (runS s0 pre) k) := Lib.hid (runS_snoc s0 pre ⟨k, hk⟩)
        replace hL : GvI wr X m B2 q' (runS s0 pre) W := hL
        obtain ⟨s, es⟩ : ∃ s, runS s0 pre = s := ⟨_, rfl⟩
        rw [es] at hL hnl hstep
        have c1 := hL.tab.queue k hk
        match hq : s.ql k with
        | [] =>
          obtain ⟨ad, cap, hv, _⟩ := (hL.rows k hk).1.nums
          rw [hq] at hv
          rw [hv] at c1
          simp only [List.length_nil] at c1
          have hfin := Lib.hid (show KeepsOthers W W ∧ KeptB (B2 + 1) W W ∧ GvI wr X m B2 q' (runS s0 (pre ++ [(⟨k, hk⟩ : Fin 70)])) W from ⟨KeepsOthers.refl W, rfl, by rw [hstep.out, stepS_nil hq]; exact hL⟩)
          clear hL hb hC hstep hnl hapart es hq hv
          gi_wp2
          exact hfin.out
        | y :: L =>
          obtain ⟨V, hV⟩ : ∃ V, W.drew = V := ⟨_, rfl⟩
          have hd := hL.drew
          rw [hV] at hd
          have hrow := (hL.rows k hk).1
          rw [hq] at hrow
          have hrowW := hrow.turn hd.turn (fun g hg e => hapart k hk g ((hL.rows k hk).2 g hg) e)
          have h1 := hd.turn1 hXs hk hq
          have hst : Hid (runS s0 (pre ++ [(⟨k, hk⟩ : Fin 70)]) = { f := seth s.f k (y : Int), q := setq s.q k (tailV (s.q k)), ql := setl s.ql k L, nx := s.nx ++ [y] }) := Lib.hid (by rw [hstep.out, stepS_cons hq])
          have e1 := hd.tab.queue k hk
          have e3 := hd.tab.holder k hk
          rcases hrowW with ⟨_, hbad⟩ | ⟨g, o, cap, cur, hv, hg, hlc, hc, hx⟩
          · cases hbad
          have hx0 := hx 0 y rfl
          rw [Nat.add_zero] at hx0
          have e2 : V.cell? ⟨g, o, none⟩ = some (.int .i64 (y : Int)) := by simp [World.cell?, hg, hx0, iv]
          obtain ⟨n, en⟩ : ∃ n, (y :: L).length = n := ⟨_, rfl⟩
          rw [en] at hv
          rw [hv] at c1 e1 h1
          have n1 : 1 ≤ n := by rw [← en, List.length_cons]; omega
          have n1' : (0 : Int) < (n : Int) := by omega
          have hsl : ∀ wx, (Instr.slice 30 (.slice (some ⟨g, o, none⟩) n cap) (some (.int .i64 1)) none none).run Try.prog wx = .ok (tailV (.slice (some ⟨g, o, none⟩) n cap)) wx := fun wx => slice_tail wx g o n cap n1
          obtain ⟨ta, tn, tc, htv⟩ : ∃ ta tn tc, tailV (.slice (some ⟨g, o, none⟩) n cap) = .slice ta tn tc := ⟨_, _, _, rfl⟩
          rw [htv] at h1 hsl
          have hst2 : Hid (runS s0 (pre ++ [(⟨k, hk⟩ : Fin 70)]) = { f := seth s.f k (y : Int), q := setq s.q k (.slice ta tn tc), ql := setl s.ql k L, nx := s.nx ++ [y] }) := Lib.hid (by rw [hst.out, hv, htv])
          have hdb : V.heap[X]? = some (.cells (tabC m s.f s.q) 49 (0, 0)) := hd.tab
          have z1 : V.frozen? ⟨X, 1 + k * 2, none⟩ = false := by simp [World.frozen?, hdb]
          obtain ⟨Wa, hWa⟩ : ∃ Wa, V.setCell ⟨X, 1 + k * 2, none⟩ (.int .i64 (y : Int)) = Wa := ⟨_, rfl⟩
          have hab : Wa.heap[X]? = some (.cells ((tabC m s.f s.q).setIfInBounds (1 + k * 2) (.int .i64 (y : Int))) 49 (0, 0)) := by rw [← hWa]; exact heap_setCell_at (o := 1 + k * 2) hdb (.int .i64 (y : Int))
          have z2 : Wa.frozen? ⟨X, 1 + k * 2 + 1, none⟩ = false := by simp [World.frozen?, hab]
          obtain ⟨u4, e4⟩ : ∃ u, Wa.cell? ⟨X, 1 + k * 2 + 1, none⟩ = some u := by
            have hsz : 1 + k * 2 + 1 < ((tabC m s.f s.q).setIfInBounds (1 + k * 2) (.int .i64 (y : Int))).size := by rw [Array.size_setIfInBounds, tabC_size]; omega
            exact ⟨_, by simp only [World.cell?, hab]; exact Array.getElem?_eq_getElem hsz⟩
          rw [hWa] at h1
          obtain ⟨Wb, hWb⟩ : ∃ Wb, Wa.setCell ⟨X, 1 + k * 2 + 1, none⟩ (.slice ta tn tc) = Wb := ⟨_, rfl⟩
          rw [hWb] at h1
          obtain ⟨Wc, hWc⟩ : ∃ Wc, Wb.drew = Wc := ⟨_, rfl⟩
          have h2 := h1.drew
          rw [hWc] at h2
          have d1o := h2.tab.holder k hk
          have d1 : Wc.cell? ⟨X, 1 + k * 2, none⟩ = some (.int .i64 (y : Int)) := by
            have d1x : seth s.f k (y : Int) k = (y : Int) := by unfold seth; rw [if_pos rfl]
            rw [← d1x]; exact d1o
          clear d1o
          obtain ⟨na, nc, hl, hr⟩ := h2.next
          obtain ⟨nn, hnn⟩ : ∃ nn, s.nx.length = nn := ⟨_, rfl⟩
          have d0 : Wc.cell? ⟨B2, 0, none⟩ = some (.slice na s.nx.length nc) := by simp [World.cell?, hl]
          obtain ⟨Wd, hWd⟩ : ∃ Wd, Wc.alloc (.cells #[.int .i64 (y : Int)] 3) = Wd := ⟨_, rfl⟩
          have gd : Wc.grownBy Wd none := by rw [← hWd]; exact World.grownBy_alloc Wc _ none
          have d0' := gd.cell d0 (by simp)
          have d1' := gd.cell d1 (by simp)
          have htmp : Hid (Wd.heap[Wc.heap.size]? = some (.cells #[.int .i64 (y : Int)] 3 (0, 0))) := Lib.hid (by rw [← hWd]; exact heap_alloc_new Wc _)
          have hrd : Hid (Wd.ownsRow (B2 + 2) 3 1 (.slice na s.nx.length nc) s.nx.length (s.nx.map iv)) := Lib.hid (by rw [← hWd]; exact World.ownsRow.alloc hr _)
          have hszd : B2 + 2 ≤ Wd.heap.size := Nat.le_trans h2.size gd.size
          have hkeep : KeepsOthers W Wc := by
            rw [← hWc, ← hWb, ← hWa, ← hV]
            exact (KeepsOthers.drew W).trans ((KeepsOthers.setCell _ _ _).trans ((KeepsOthers.setCell _ _ _).trans (KeepsOthers.drew _)))
          have hkb : KeptB (B2 + 1) W Wc := by
            have k1 : KeptB (B2 + 1) V Wa := by
              rw [← hWa]
              exact (grown_setCell V ⟨X, 1 + k * 2, none⟩ (.int .i64 (y : Int))).block (B2 + 1) (by have := hd.size; omega) (by simp; omega)
            have k2 : KeptB (B2 + 1) Wa Wb := by
              rw [← hWb]
              exact (grown_setCell Wa ⟨X, 1 + k * 2 + 1, none⟩ (.slice ta tn tc)).block (B2 + 1) (by have h0 := hd.size; have h3 := (grown_setCell V ⟨X, 1 + k * 2, none⟩ (.int .i64 (y : Int))).size; rw [hWa] at h3; omega) (by simp; omega)
            have k0 : KeptB (B2 + 1) W V := by rw [← hV]; rfl
            have k3 : KeptB (B2 + 1) Wb Wc := by rw [← hWc]; rfl
            exact k0.trans (k1.trans (k2.trans k3))
          have HFIN := Lib.hid (fun (w4 : World) (ad2 : Option Addr) (cap2 : Nat) (hr2 : w4.ownsRow (B2 + 2) 3 1 (.slice ad2 (s.nx.length + 1) cap2) (s.nx.length + 1) (s.nx.map iv ++ [.int .i64 (y : Int)])) (hg2 : Wd.grownBy w4 (Value.slice na s.nx.length nc).ownBlock) =>
            (show w4.cell? ⟨B2, 0, none⟩ = some (.slice na s.nx.length nc) ∧ w4.frozen? ⟨B2, 0, none⟩ = false ∧ KeepsOthers W (w4.setCell ⟨B2, 0, none⟩ (.slice ad2 (s.nx.length + 1) cap2)) ∧ KeptB (B2 + 1) W (w4.setCell ⟨B2, 0, none⟩ (.slice ad2 (s.nx.length + 1) cap2)) ∧ GvI wr X m B2 q' (runS s0 (pre ++ [(⟨k, hk⟩ : Fin 70)])) (w4.setCell ⟨B2, 0, none⟩ (.slice ad2 (s.nx.length + 1) cap2)) from by
              have h4 := h2.turn2 hB2 hXs (y := y) (ad := na) (ad2 := ad2) (cap := nc) (cap2 := cap2) (w4 := w4) hl hr (by rw [hWd]; exact hg2) hr2
              exact ⟨by simp [World.cell?, h4.1], by simp [World.frozen?, h4.1], hkeep.trans h4.2.1, hkb.trans h4.2.2.1, by rw [hst2.out]; exact h4.2.2.2⟩))
          rw [hnn] at d0 d0' hrd HFIN
          have HV := Lib.hid hV
          have HWa := Lib.hid hWa
          have HWb := Lib.hid hWb
          have HWc := Lib.hid hWc
          have HWd := Lib.hid hWd
          have hnl2 : nn ≤ 100000 := by omega
          clear hL hb hC hstep hnl hapart es hq hd hrow hx hx0 hst hst2 hdb hab htv hg hlc hc hv h1 h2 hl hr hkeep hkb gd hV hWa hWb hWc hWd hnn HE
          gi_wp2_with fail
          refine wpIn_region_any (by kernel_rfl) ?_
          refine wpAnyIn_round rfl (by kernel_rfl) _ _ _ _ ?_
          change wpAnyIn _ _ _ _ _ _ _ _ _ (World.drew _)
          rw [HV.out]
          refine wpAnyIn_via (fuel' := 3) (listed' := #[true, true, true, true, true, true, true, true, true, true, true, true, true, true, true, true, false, false, false]) (a' := { tmps := #[.pointer (some ⟨X, 0, none⟩), .int .i64 (a : Int), undef, .pointer (some ⟨B, 0, none⟩), .slice none 0 0, u5, u6, .pointer (some ⟨B2, 0, none⟩), .pointer (some ⟨X, 1 + k * 2, none⟩), .pointer (some ⟨X, 0, none⟩), .int .i64 (a : Int), .bool true, .bool false, .int .i64 70, .bool false, u15, u16, u17, u18, u19, u20, u21, u22, u23, u24, u25, u26, u27, u28, u29, u30, u31, u32, u33, u34, u35, u36, u37, u38, u39, .pointer (some ⟨X, 0, none⟩), .func (.func 27) #[] #[.pointer (some ⟨B2 + 1, 0, none⟩)], .pointer (some ⟨X, 1 + k * 2, none⟩), .pointer (some ⟨X, 1 + k * 2, none⟩), .pointer (some ⟨X, 1 + k * 2, none⟩), .pointer (some ⟨X, 1 + k * 2 + 1, none⟩), .slice (some ⟨g, o, none⟩) n cap, .int .i64 (n : Int), .bool true, .pointer (some ⟨X, 1 + k * 2, none⟩), .pointer (some ⟨X, 1 + k * 2, none⟩), .pointer (some ⟨X, 1 + k * 2, none⟩), .pointer (some ⟨X, 1 + k * 2, none⟩), .pointer (some ⟨X, 1 + k * 2 + 1, none⟩), .slice (some ⟨g, o, none⟩) n cap, .pointer (some ⟨g, o, none⟩), .int .i64 (y : Int), .pointer (some ⟨X, 1 + k * 2, none⟩), .pointer (some ⟨X, 1 + k * 2, none⟩), .pointer (some ⟨X, 1 + k * 2 + 1, none⟩), .slice (some ⟨g, o, none⟩) n cap, .slice ta tn tc, .pointer (some ⟨X, 1 + k * 2, none⟩), .pointer (some ⟨X, 1 + k * 2, none⟩), undef, undef, undef, undef, undef, undef, undef, undef, undef, undef], defers := [] }) (w' := Wa) ?cHd0 (fun Hd0 => ?_)
          case cHd0 =>
            refine wpAnyIn_take (i := 16) (oi := { dst := some 64, op := Op.nilCheck (Operand.tmp 50), type := 0, pos := "lock.go:110", after := #[{ on := 1, ground := Ground.data }, { on := 0, ground := Ground.phase }, { on := 1, ground := Ground.phase }, { on := 2, ground := Ground.phase }, { on := 3, ground := Ground.phase }, { on := 4, ground := Ground.phase }, { on := 5, ground := Ground.phase }, { on := 6, ground := Ground.phase }, { on := 7, ground := Ground.phase }, { on := 8, ground := Ground.phase }, { on := 9, ground := Ground.phase }, { on := 10, ground := Ground.phase }, { on := 11, ground := Ground.phase }, { on := 12, ground := Ground.phase }, { on := 13, ground := Ground.phase }, { on := 14, ground := Ground.phase }, { on := 15, ground := Ground.phase }], guard := none }) (v := ?vd16_1) rfl rfl (by kernel_rfl) (by kernel_rfl) (by kernel_rfl) (fun _ _ _ h => h) ⟨Or.inl ⟨by rfl, ?hd16_1⟩, fun _ => rfl⟩ ?_
            case hd16_1 => (intro w; go_simp; (try with_reducible rfl))
            try simp only [Act.put, List.setIfInBounds_toArray, List.set_cons_zero, List.set_cons_succ]
            refine wpAnyIn_take (i := 17) (oi := { dst := some 65, op := Op.fieldAddr 46 (Operand.tmp 64) 1, type := 0, pos := "lock.go:110", after := #[{ on := 16, ground := Ground.data }, { on := 0, ground := Ground.phase }, { on := 1, ground := Ground.phase }, { on := 2, ground := Ground.phase }, { on := 3, ground := Ground.phase }, { on := 4, ground := Ground.phase }, { on := 5, ground := Ground.phase }, { on := 6, ground := Ground.phase }, { on := 7, ground := Ground.phase }, { on := 8, ground := Ground.phase }, { on := 9, ground := Ground.phase }, { on := 10, ground := Ground.phase }, { on := 11, ground := Ground.phase }, { on := 12, ground := Ground.phase }, { on := 13, ground := Ground.phase }, { on := 14, ground := Ground.phase }, { on := 15, ground := Ground.phase }], guard := none }) (v := ?vd17_2) rfl rfl (by kernel_rfl) (by kernel_rfl) (by kernel_rfl) (fun _ _ _ h => h) ⟨Or.inl ⟨by rfl, ?hd17_2⟩, fun _ => rfl⟩ ?_
            case hd17_2 => (intro w; go_simp; (try with_reducible rfl))
            try simp only [Act.put, List.setIfInBounds_toArray, List.set_cons_zero, List.set_cons_succ]
            refine wpAnyIn_ready (rs := [18]) (by kernel_rfl) (by simp) ?_
            refine AllReadyIn.cons (o := { dst := none, op := Op.store 30 (Operand.tmp 65) (Operand.tmp 61), type := 0, pos := "lock.go:110", after := #[{ on := 17, ground := Ground.data }, { on := 12, ground := Ground.data }, { on := 15, ground := Ground.chain }, { on := 0, ground := Ground.phase }, { on := 1, ground := Ground.phase }, { on := 2, ground := Ground.phase }, { on := 3, ground := Ground.phase }, { on := 4, ground := Ground.phase }, { on := 5, ground := Ground.phase }, { on := 6, ground := Ground.phase }, { on := 7, ground := Ground.phase }, { on := 8, ground := Ground.phase }, { on := 9, ground := Ground.phase }, { on := 10, ground := Ground.phase }, { on := 11, ground := Ground.phase }, { on := 12, ground := Ground.phase }, { on := 13, ground := Ground.phase }, { on := 14, ground := Ground.phase }, { on := 15, ground := Ground.phase }], guard := none }) rfl (fun K hK => ?_) AllReadyIn.nil
            go_simp
            rw [HWb.out]
            refine hK _ _ ?_; clear hK K
            try simp only [List.setIfInBounds_toArray, List.set_cons_zero, List.set_cons_succ]
            refine wpAnyIn_done (by kernel_rfl) ?_ _
            gi_wp2_with fail
            refine wpIn_region_any (by kernel_rfl) ?_
            refine wpAnyIn_round rfl (by kernel_rfl) _ _ _ _ ?_
            change wpAnyIn _ _ _ _ _ _ _ _ _ (World.drew _)
            rw [HWc.out]
            refine wpAnyIn_via (fuel' := 2) (listed' := #[true, true, true, true, true, true, false, false]) (a' := { tmps := #[.pointer (some ⟨X, 0, none⟩), .int .i64 (a : Int), undef, .pointer (some ⟨B, 0, none⟩), .slice none 0 0, u5, u6, .pointer (some ⟨B2, 0, none⟩), .pointer (some ⟨X, 1 + k * 2, none⟩), .pointer (some ⟨X, 0, none⟩), .int .i64 (a : Int), .bool true, .bool false, .int .i64 70, .bool false, u15, u16, u17, u18, u19, u20, u21, u22, u23, u24, u25, u26, u27, u28, u29, u30, u31, u32, u33, u34, u35, u36, u37, u38, u39, .pointer (some ⟨X, 0, none⟩), .func (.func 27) #[] #[.pointer (some ⟨B2 + 1, 0, none⟩)], .pointer (some ⟨X, 1 + k * 2, none⟩), .pointer (some ⟨X, 1 + k * 2, none⟩), .pointer (some ⟨X, 1 + k * 2, none⟩), .pointer (some ⟨X, 1 + k * 2 + 1, none⟩), .slice (some ⟨g, o, none⟩) n cap, .int .i64 (n : Int), .bool true, .pointer (some ⟨X, 1 + k * 2, none⟩), .pointer (some ⟨X, 1 + k * 2, none⟩), .pointer (some ⟨X, 1 + k * 2, none⟩), .pointer (some ⟨X, 1 + k * 2, none⟩), .pointer (some ⟨X, 1 + k * 2 + 1, none⟩), .slice (some ⟨g, o, none⟩) n cap, .pointer (some ⟨g, o, none⟩), .int .i64 (y : Int), .pointer (some ⟨X, 1 + k * 2, none⟩), .pointer (some ⟨X, 1 + k * 2, none⟩), .pointer (some ⟨X, 1 + k * 2 + 1, none⟩), .slice (some ⟨g, o, none⟩) n cap, .slice ta tn tc, .pointer (some ⟨X, 1 + k * 2, none⟩), .pointer (some ⟨X, 1 + k * 2, none⟩), .pointer (some ⟨X, 1 + k * 2, none⟩), .pointer (some ⟨X, 1 + k * 2 + 1, none⟩), .slice na nn nc, .pointer (some ⟨X, 1 + k * 2, none⟩), .pointer (some ⟨X, 1 + k * 2, none⟩), .pointer (some ⟨X, 1 + k * 2, none⟩), .int .i64 (y : Int), .slice (some ⟨Wc.heap.size, 0, none⟩) 1 1, undef, undef], defers := [] }) (w' := Wd) ?cHe0 (fun He0 => ?_)
            case cHe0 =>
              refine wpAnyIn_ready (rs := [6]) (by kernel_rfl) (by simp) ?_
              refine AllReadyIn.cons (o := { dst := some 72, op := Op.call { callee := Callee.builtin Builtin.append, args := #[Operand.tmp 66, Operand.tmp 71], argTypes := #[30, 30] }, type := 30, pos := "lock.go:111", after := #[{ on := 0, ground := Ground.data }, { on := 5, ground := Ground.data }], guard := none }) rfl (fun K hK => ?_) AllReadyIn.nil
              refine opIn_append (by kernel_rfl) _ _ rfl (B2 + 2) _ nn _ rfl hrd.out Wc.heap.size (y : Int) rfl htmp.out hnl2 hszd ?_
              intro ad4 cap4 w4 hr4 hg4
              obtain ⟨c4, z4, hfin⟩ := HFIN.out w4 ad4 cap4 hr4 hg4
              have hF4 := Lib.hid hfin
              clear hr4 hg4 hfin
              refine hK _ _ ?_; clear hK K
              try simp only [Act.put, List.setIfInBounds_toArray, List.set_cons_zero, List.set_cons_succ]
              refine wpAnyIn_ready (rs := [7]) (by kernel_rfl) (by simp) ?_
              refine AllReadyIn.cons (o := { dst := none, op := Op.store 30 (Operand.tmp 7) (Operand.tmp 72), type := 0, pos := "lock.go:111", after := #[{ on := 6, ground := Ground.data }, { on := 6, ground := Ground.chain }, { on := 0, ground := Ground.phase }, { on := 1, ground := Ground.phase }, { on := 2, ground := Ground.phase }, { on := 3, ground := Ground.phase }, { on := 4, ground := Ground.phase }, { on := 5, ground := Ground.phase }, { on := 6, ground := Ground.phase }], guard := none }) rfl (fun K hK => ?_) AllReadyIn.nil
              go_simp
              refine hK _ _ ?_; clear hK K
              try simp only [List.setIfInBounds_toArray, List.set_cons_zero, List.set_cons_succ]
              refine wpAnyIn_done (by kernel_rfl) ?_ _
              gi_wp2
              exact hF4.out
            refine wpAnyIn_via (fuel' := 3) (listed' := #[true, true, true, true, true, false, false, false]) (a' := { tmps := #[.pointer (some ⟨X, 0, none⟩), .int .i64 (a : Int), undef, .pointer (some ⟨B, 0, none⟩), .slice none 0 0, u5, u6, .pointer (some ⟨B2, 0, none⟩), .pointer (some ⟨X, 1 + k * 2, none⟩), .pointer (some ⟨X, 0, none⟩), .int .i64 (a : Int), .bool true, .bool false, .int .i64 70, .bool false, u15, u16, u17, u18, u19, u20, u21, u22, u23, u24, u25, u26, u27, u28, u29, u30, u31, u32, u33, u34, u35, u36, u37, u38, u39, .pointer (some ⟨X, 0, none⟩), .func (.func 27) #[] #[.pointer (some ⟨B2 + 1, 0, none⟩)], .pointer (some ⟨X, 1 + k * 2, none⟩), .pointer (some ⟨X, 1 + k * 2, none⟩), .pointer (some ⟨X, 1 + k * 2, none⟩), .pointer (some ⟨X, 1 + k * 2 + 1, none⟩), .slice (some ⟨g, o, none⟩) n cap, .int .i64 (n : Int), .bool true, .pointer (some ⟨X, 1 + k * 2, none⟩), .pointer (some ⟨X, 1 + k * 2, none⟩), .pointer (some ⟨X, 1 + k * 2, none⟩), .pointer (some ⟨X, 1 + k * 2, none⟩), .pointer (some ⟨X, 1 + k * 2 + 1, none⟩), .slice (some ⟨g, o, none⟩) n cap, .pointer (some ⟨g, o, none⟩), .int .i64 (y : Int), .pointer (some ⟨X, 1 + k * 2, none⟩), .pointer (some ⟨X, 1 + k * 2, none⟩), .pointer (some ⟨X, 1 + k * 2 + 1, none⟩), .slice (some ⟨g, o, none⟩) n cap, .slice ta tn tc, .pointer (some ⟨X, 1 + k * 2, none⟩), .pointer (some ⟨X, 1 + k * 2, none⟩), .pointer (some ⟨X, 1 + k * 2, none⟩), .pointer (some ⟨X, 1 + k * 2 + 1, none⟩), .slice na nn nc, .pointer (some ⟨X, 1 + k * 2, none⟩), .pointer (some ⟨X, 1 + k * 2, none⟩), .pointer (some ⟨X, 1 + k * 2, none⟩), .int .i64 (y : Int), undef, undef, undef], defers := [] }) (w' := Wc) ?cHe1 (fun He1 => ?_)
            case cHe1 =>
              refine wpAnyIn_ready (rs := [5]) (by kernel_rfl) (by simp) ?_
              refine AllReadyIn.cons (o := { dst := some 71, op := Op.buildSlice 30 1 #[(0, Operand.tmp 70)], type := 30, pos := "lock.go:111", after := #[{ on := 4, ground := Ground.data }], guard := none }) rfl (fun K hK => ?_) ?_
              · go_simp
                rw [HWd.out]
                exact hK _ _ He0.out
              exact AllReadyIn.nil
            refine wpAnyIn_via (fuel' := 4) (listed' := #[true, true, true, true, false, false, false, false]) (a' := { tmps := #[.pointer (some ⟨X, 0, none⟩), .int .i64 (a : Int), undef, .pointer (some ⟨B, 0, none⟩), .slice none 0 0, u5, u6, .pointer (some ⟨B2, 0, none⟩), .pointer (some ⟨X, 1 + k * 2, none⟩), .pointer (some ⟨X, 0, none⟩), .int .i64 (a : Int), .bool true, .bool false, .int .i64 70, .bool false, u15, u16, u17, u18, u19, u20, u21, u22, u23, u24, u25, u26, u27, u28, u29, u30, u31, u32, u33, u34, u35, u36, u37, u38, u39, .pointer (some ⟨X, 0, none⟩), .func (.func 27) #[] #[.pointer (some ⟨B2 + 1, 0, none⟩)], .pointer (some ⟨X, 1 + k * 2, none⟩), .pointer (some ⟨X, 1 + k * 2, none⟩), .pointer (some ⟨X, 1 + k * 2, none⟩), .pointer (some ⟨X, 1 + k * 2 + 1, none⟩), .slice (some ⟨g, o, none⟩) n cap, .int .i64 (n : Int), .bool true, .pointer (some ⟨X, 1 + k * 2, none⟩), .pointer (some ⟨X, 1 + k * 2, none⟩), .pointer (some ⟨X, 1 + k * 2, none⟩), .pointer (some ⟨X, 1 + k * 2, none⟩), .pointer (some ⟨X, 1 + k * 2 + 1, none⟩), .slice (some ⟨g, o, none⟩) n cap, .pointer (some ⟨g, o, none⟩), .int .i64 (y : Int), .pointer (some ⟨X, 1 + k * 2, none⟩), .pointer (some ⟨X, 1 + k * 2, none⟩), .pointer (some ⟨X, 1 + k * 2 + 1, none⟩), .slice (some ⟨g, o, none⟩) n cap, .slice ta tn tc, .pointer (some ⟨X, 1 + k * 2, none⟩), .pointer (some ⟨X, 1 + k * 2, none⟩), .pointer (some ⟨X, 1 + k * 2, none⟩), .pointer (some ⟨X, 1 + k * 2 + 1, none⟩), .slice na nn nc, .pointer (some ⟨X, 1 + k * 2, none⟩), .pointer (some ⟨X, 1 + k * 2, none⟩), .pointer (some ⟨X, 1 + k * 2, none⟩), undef, undef, undef, undef], defers := [] }) (w' := Wc) ?cHe2 (fun He2 => ?_)
            case cHe2 =>
              refine wpAnyIn_ready (rs := [4]) (by kernel_rfl) (by simp) ?_
              refine AllReadyIn.cons (o := { dst := some 70, op := Op.load 3 (Operand.tmp 69), type := 3, pos := "lock.go:111", after := #[{ on := 3, ground := Ground.data }], guard := none }) rfl (fun K hK => ?_) ?_
              · go_simp
                exact hK _ _ He1.out
              exact AllReadyIn.nil
            refine wpAnyIn_via (fuel' := 3) (listed' := #[false, true, true, true, true, true, false, false]) (a' := { tmps := #[.pointer (some ⟨X, 0, none⟩), .int .i64 (a : Int), undef, .pointer (some ⟨B, 0, none⟩), .slice none 0 0, u5, u6, .pointer (some ⟨B2, 0, none⟩), .pointer (some ⟨X, 1 + k * 2, none⟩), .pointer (some ⟨X, 0, none⟩), .int .i64 (a : Int), .bool true, .bool false, .int .i64 70, .bool false, u15, u16, u17, u18, u19, u20, u21, u22, u23, u24, u25, u26, u27, u28, u29, u30, u31, u32, u33, u34, u35, u36, u37, u38, u39, .pointer (some ⟨X, 0, none⟩), .func (.func 27) #[] #[.pointer (some ⟨B2 + 1, 0, none⟩)], .pointer (some ⟨X, 1 + k * 2, none⟩), .pointer (some ⟨X, 1 + k * 2, none⟩), .pointer (some ⟨X, 1 + k * 2, none⟩), .pointer (some ⟨X, 1 + k * 2 + 1, none⟩), .slice (some ⟨g, o, none⟩) n cap, .int .i64 (n : Int), .bool true, .pointer (some ⟨X, 1 + k * 2, none⟩), .pointer (some ⟨X, 1 + k * 2, none⟩), .pointer (some ⟨X, 1 + k * 2, none⟩), .pointer (some ⟨X, 1 + k * 2, none⟩), .pointer (some ⟨X, 1 + k * 2 + 1, none⟩), .slice (some ⟨g, o, none⟩) n cap, .pointer (some ⟨g, o, none⟩), .int .i64 (y : Int), .pointer (some ⟨X, 1 + k * 2, none⟩), .pointer (some ⟨X, 1 + k * 2, none⟩), .pointer (some ⟨X, 1 + k * 2 + 1, none⟩), .slice (some ⟨g, o, none⟩) n cap, .slice ta tn tc, .pointer (some ⟨X, 1 + k * 2, none⟩), .pointer (some ⟨X, 1 + k * 2, none⟩), .pointer (some ⟨X, 1 + k * 2, none⟩), .pointer (some ⟨X, 1 + k * 2 + 1, none⟩), undef, .pointer (some ⟨X, 1 + k * 2, none⟩), .pointer (some ⟨X, 1 + k * 2, none⟩), .pointer (some ⟨X, 1 + k * 2, none⟩), .int .i64 (y : Int), .slice (some ⟨Wc.heap.size, 0, none⟩) 1 1, undef, undef], defers := [] }) (w' := Wd) ?cHe3 (fun He3 => ?_)
            case cHe3 =>
              refine wpAnyIn_ready (rs := [0]) (by kernel_rfl) (by simp) ?_
              refine AllReadyIn.cons (o := { dst := some 66, op := Op.load 30 (Operand.tmp 7), type := 30, pos := "lock.go:111", after := #[], guard := none }) rfl (fun K hK => ?_) ?_
              · go_simp
                exact hK _ _ He0.out
              exact AllReadyIn.nil
            refine wpAnyIn_via (fuel' := 4) (listed' := #[false, true, true, true, true, false, false, false]) (a' := { tmps := #[.pointer (some ⟨X, 0, none⟩), .int .i64 (a : Int), undef, .pointer (some ⟨B, 0, none⟩), .slice none 0 0, u5, u6, .pointer (some ⟨B2, 0, none⟩), .pointer (some ⟨X, 1 + k * 2, none⟩), .pointer (some ⟨X, 0, none⟩), .int .i64 (a : Int), .bool true, .bool false, .int .i64 70, .bool false, u15, u16, u17, u18, u19, u20, u21, u22, u23, u24, u25, u26, u27, u28, u29, u30, u31, u32, u33, u34, u35, u36, u37, u38, u39, .pointer (some ⟨X, 0, none⟩), .func (.func 27) #[] #[.pointer (some ⟨B2 + 1, 0, none⟩)], .pointer (some ⟨X, 1 + k * 2, none⟩), .pointer (some ⟨X, 1 + k * 2, none⟩), .pointer (some ⟨X, 1 + k * 2, none⟩), .pointer (some ⟨X, 1 + k * 2 + 1, none⟩), .slice (some ⟨g, o, none⟩) n cap, .int .i64 (n : Int), .bool true, .pointer (some ⟨X, 1 + k * 2, none⟩), .pointer (some ⟨X, 1 + k * 2, none⟩), .pointer (some ⟨X, 1 + k * 2, none⟩), .pointer (some ⟨X, 1 + k * 2, none⟩), .pointer (some ⟨X, 1 + k * 2 + 1, none⟩), .slice (some ⟨g, o, none⟩) n cap, .pointer (some ⟨g, o, none⟩), .int .i64 (y : Int), .pointer (some ⟨X, 1 + k * 2, none⟩), .pointer (some ⟨X, 1 + k * 2, none⟩), .pointer (some ⟨X, 1 + k * 2 + 1, none⟩), .slice (some ⟨g, o, none⟩) n cap, .slice ta tn tc, .pointer (some ⟨X, 1 + k * 2, none⟩), .pointer (some ⟨X, 1 + k * 2, none⟩), .pointer (some ⟨X, 1 + k * 2, none⟩), .pointer (some ⟨X, 1 + k * 2 + 1, none⟩), undef, .pointer (some ⟨X, 1 + k * 2, none⟩), .pointer (some ⟨X, 1 + k * 2, none⟩), .pointer (some ⟨X, 1 + k * 2, none⟩), .int .i64 (y : Int), undef, undef, undef], defers := [] }) (w' := Wc) ?cHe4 (fun He4 => ?_)
            case cHe4 =>
              refine wpAnyIn_ready (rs := [0, 5]) (by kernel_rfl) (by simp) ?_
              refine AllReadyIn.cons (o := { dst := some 66, op := Op.load 30 (Operand.tmp 7), type := 30, pos := "lock.go:111", after := #[], guard := none }) rfl (fun K hK => ?_) ?_
              · go_simp
                exact hK _ _ He1.out
              refine AllReadyIn.cons (o := { dst := some 71, op := Op.buildSlice 30 1 #[(0, Operand.tmp 70)], type := 30, pos := "lock.go:111", after := #[{ on := 4, ground := Ground.data }], guard := none }) rfl (fun K hK => ?_) ?_
              · go_simp
                rw [HWd.out]
                exact hK _ _ He3.out
              exact AllReadyIn.nil
            refine wpAnyIn_take (i := 1) (oi := { dst := some 67, op := Op.move (Operand.tmp 8), type := 51, pos := "lock.go:111", after := #[], guard := none }) (v := ?ve1_1) rfl rfl (by kernel_rfl) (by kernel_rfl) (by kernel_rfl) (fun _ _ _ h => h) ⟨Or.inl ⟨by rfl, ?he1_1⟩, fun _ => rfl⟩ ?_
            case he1_1 => (intro w; go_simp; (try with_reducible rfl))
            try simp only [Act.put, List.setIfInBounds_toArray, List.set_cons_zero, List.set_cons_succ]
            refine wpAnyIn_take (i := 2) (oi := { dst := some 68, op := Op.nilCheck (Operand.tmp 67), type := 0, pos := "lock.go:111", after := #[{ on := 1, ground := Ground.data }], guard := none }) (v := ?ve2_2) rfl rfl (by kernel_rfl) (by kernel_rfl) (by kernel_rfl) (fun _ _ _ h => h) ⟨Or.inl ⟨by rfl, ?he2_2⟩, fun _ => rfl⟩ ?_
            case he2_2 => (intro w; go_simp; (try with_reducible rfl))
            try simp only [Act.put, List.setIfInBounds_toArray, List.set_cons_zero, List.set_cons_succ]
            refine wpAnyIn_take (i := 3) (oi := { dst := some 69, op := Op.fieldAddr 46 (Operand.tmp 68) 0, type := 0, pos := "lock.go:111", after := #[{ on := 2, ground := Ground.data }], guard := none }) (v := ?ve3_3) rfl rfl (by kernel_rfl) (by kernel_rfl) (by kernel_rfl) (fun _ _ _ h => h) ⟨Or.inl ⟨by rfl, ?he3_3⟩, fun _ => rfl⟩ ?_
            case he3_3 => (intro w; go_simp; (try with_reducible rfl))
            try simp only [Act.put, List.setIfInBounds_toArray, List.set_cons_zero, List.set_cons_succ]
            refine wpAnyIn_ready (rs := [0, 4]) (by kernel_rfl) (by simp) ?_
            refine AllReadyIn.cons (o := { dst := some 66, op := Op.load 30 (Operand.tmp 7), type := 30, pos := "lock.go:111", after := #[], guard := none }) rfl (fun K hK => ?_) ?_
            · go_simp
              exact hK _ _ He2.out
            refine AllReadyIn.cons (o := { dst := some 70, op := Op.load 3 (Operand.tmp 69), type := 3, pos := "lock.go:111", after := #[{ on := 3, ground := Ground.data }], guard := none }) rfl (fun K hK => ?_) ?_
            · go_simp
              exact hK _ _ He4.out
            exact AllReadyIn.nil
          refine wpAnyIn_via (fuel' := 4) (listed' := #[true, true, true, true, true, true, true, true, true, true, true, true, true, true, true, false, false, false, false]) (a' := { tmps := #[.pointer (some ⟨X, 0, none⟩), .int .i64 (a : Int), undef, .pointer (some ⟨B, 0, none⟩), .slice none 0 0, u5, u6, .pointer (some ⟨B2, 0, none⟩), .pointer (some ⟨X, 1 + k * 2, none⟩), .pointer (some ⟨X, 0, none⟩), .int .i64 (a : Int), .bool true, .bool false, .int .i64 70, .bool false, u15, u16, u17, u18, u19, u20, u21, u22, u23, u24, u25, u26, u27, u28, u29, u30, u31, u32, u33, u34, u35, u36, u37, u38, u39, .pointer (some ⟨X, 0, none⟩), .func (.func 27) #[] #[.pointer (some ⟨B2 + 1, 0, none⟩)], .pointer (some ⟨X, 1 + k * 2, none⟩), .pointer (some ⟨X, 1 + k * 2, none⟩), .pointer (some ⟨X, 1 + k * 2, none⟩), .pointer (some ⟨X, 1 + k * 2 + 1, none⟩), .slice (some ⟨g, o, none⟩) n cap, .int .i64 (n : Int), .bool true, .pointer (some ⟨X, 1 + k * 2, none⟩), .pointer (some ⟨X, 1 + k * 2, none⟩), .pointer (some ⟨X, 1 + k * 2, none⟩), .pointer (some ⟨X, 1 + k * 2, none⟩), .pointer (some ⟨X, 1 + k * 2 + 1, none⟩), .slice (some ⟨g, o, none⟩) n cap, .pointer (some ⟨g, o, none⟩), .int .i64 (y : Int), .pointer (some ⟨X, 1 + k * 2, none⟩), .pointer (some ⟨X, 1 + k * 2, none⟩), .pointer (some ⟨X, 1 + k * 2 + 1, none⟩), .slice (some ⟨g, o, none⟩) n cap, .slice ta tn tc, .pointer (some ⟨X, 1 + k * 2, none⟩), .pointer (some ⟨X, 1 + k * 2, none⟩), undef, undef, undef, undef, undef, undef, undef, undef, undef, undef], defers := [] }) (w' := V) ?cHd1 (fun Hd1 => ?_)
          case cHd1 =>
            refine wpAnyIn_ready (rs := [15]) (by kernel_rfl) (by simp) ?_
            refine AllReadyIn.cons (o := { dst := none, op := Op.store 3 (Operand.tmp 63) (Operand.tmp 56), type := 0, pos := "lock.go:110", after := #[{ on := 14, ground := Ground.data }, { on := 7, ground := Ground.data }, { on := 0, ground := Ground.phase }, { on := 1, ground := Ground.textOnly Departure.lateStores }, { on := 2, ground := Ground.phase }, { on := 3, ground := Ground.phase }, { on := 4, ground := Ground.phase }, { on := 5, ground := Ground.phase }, { on := 6, ground := Ground.phase }, { on := 7, ground := Ground.phase }, { on := 8, ground := Ground.textOnly Departure.lateStores }, { on := 9, ground := Ground.textOnly Departure.lateStoresUnsure }, { on := 10, ground := Ground.textOnly Departure.lateStoresUnsure }, { on := 11, ground := Ground.phase }, { on := 12, ground := Ground.textOnly Departure.lateStoresUnsure }], guard := none }) rfl (fun K hK => ?_) ?_
            · go_simp
              rw [HWa.out]
              exact hK _ _ Hd0.out
            exact AllReadyIn.nil
          refine wpAnyIn_via (fuel' := 4) (listed' := #[true, true, true, true, true, true, true, true, true, true, true, true, false, true, true, true, false, false, false]) (a' := { tmps := #[.pointer (some ⟨X, 0, none⟩), .int .i64 (a : Int), undef, .pointer (some ⟨B, 0, none⟩), .slice none 0 0, u5, u6, .pointer (some ⟨B2, 0, none⟩), .pointer (some ⟨X, 1 + k * 2, none⟩), .pointer (some ⟨X, 0, none⟩), .int .i64 (a : Int), .bool true, .bool false, .int .i64 70, .bool false, u15, u16, u17, u18, u19, u20, u21, u22, u23, u24, u25, u26, u27, u28, u29, u30, u31, u32, u33, u34, u35, u36, u37, u38, u39, .pointer (some ⟨X, 0, none⟩), .func (.func 27) #[] #[.pointer (some ⟨B2 + 1, 0, none⟩)], .pointer (some ⟨X, 1 + k * 2, none⟩), .pointer (some ⟨X, 1 + k * 2, none⟩), .pointer (some ⟨X, 1 + k * 2, none⟩), .pointer (some ⟨X, 1 + k * 2 + 1, none⟩), .slice (some ⟨g, o, none⟩) n cap, .int .i64 (n : Int), .bool true, .pointer (some ⟨X, 1 + k * 2, none⟩), .pointer (some ⟨X, 1 + k * 2, none⟩), .pointer (some ⟨X, 1 + k * 2, none⟩), .pointer (some ⟨X, 1 + k * 2, none⟩), .pointer (some ⟨X, 1 + k * 2 + 1, none⟩), .slice (some ⟨g, o, none⟩) n cap, .pointer (some ⟨g, o, none⟩), .int .i64 (y : Int), .pointer (some ⟨X, 1 + k * 2, none⟩), .pointer (some ⟨X, 1 + k * 2, none⟩), .pointer (some ⟨X, 1 + k * 2 + 1, none⟩), .slice (some ⟨g, o, none⟩) n cap, undef, .pointer (some ⟨X, 1 + k * 2, none⟩), .pointer (some ⟨X, 1 + k * 2, none⟩), undef, undef, undef, undef, undef, undef, undef, undef, undef, undef], defers := [] }) (w' := Wa) ?cHd2 (fun Hd2 => ?_)
          case cHd2 =>
            refine wpAnyIn_ready (rs := [12]) (by kernel_rfl) (by simp) ?_
            refine AllReadyIn.cons (o := { dst := some 61, op := Op.slice 30 (Operand.tmp 60) (some (Operand.const (Value.int IntKind.i64 1))) none none, type := 30, pos := "lock.go:110", after := #[{ on := 11, ground := Ground.data }], guard := none }) rfl (fun K hK => ?_) ?_
            · go_simp
              exact hK _ _ Hd0.out
            exact AllReadyIn.nil
          refine wpAnyIn_via (fuel' := 7) (listed' := #[true, true, true, true, true, true, true, true, true, true, true, true, false, false, false, false, false, false, false]) (a' := { tmps := #[.pointer (some ⟨X, 0, none⟩), .int .i64 (a : Int), undef, .pointer (some ⟨B, 0, none⟩), .slice none 0 0, u5, u6, .pointer (some ⟨B2, 0, none⟩), .pointer (some ⟨X, 1 + k * 2, none⟩), .pointer (some ⟨X, 0, none⟩), .int .i64 (a : Int), .bool true, .bool false, .int .i64 70, .bool false, u15, u16, u17, u18, u19, u20, u21, u22, u23, u24, u25, u26, u27, u28, u29, u30, u31, u32, u33, u34, u35, u36, u37, u38, u39, .pointer (some ⟨X, 0, none⟩), .func (.func 27) #[] #[.pointer (some ⟨B2 + 1, 0, none⟩)], .pointer (some ⟨X, 1 + k * 2, none⟩), .pointer (some ⟨X, 1 + k * 2, none⟩), .pointer (some ⟨X, 1 + k * 2, none⟩), .pointer (some ⟨X, 1 + k * 2 + 1, none⟩), .slice (some ⟨g, o, none⟩) n cap, .int .i64 (n : Int), .bool true, .pointer (some ⟨X, 1 + k * 2, none⟩), .pointer (some ⟨X, 1 + k * 2, none⟩), .pointer (some ⟨X, 1 + k * 2, none⟩), .pointer (some ⟨X, 1 + k * 2, none⟩), .pointer (some ⟨X, 1 + k * 2 + 1, none⟩), .slice (some ⟨g, o, none⟩) n cap, .pointer (some ⟨g, o, none⟩), .int .i64 (y : Int), .pointer (some ⟨X, 1 + k * 2, none⟩), .pointer (some ⟨X, 1 + k * 2, none⟩), .pointer (some ⟨X, 1 + k * 2 + 1, none⟩), .slice (some ⟨g, o, none⟩) n cap, undef, undef, undef, undef, undef, undef, undef, undef, undef, undef, undef, undef, undef], defers := [] }) (w' := V) ?cHd3 (fun Hd3 => ?_)
          case cHd3 =>
            refine wpAnyIn_take (i := 13) (oi := { dst := some 62, op := Op.nilCheck (Operand.tmp 49), type := 0, pos := "lock.go:110", after := #[{ on := 0, ground := Ground.data }, { on := 0, ground := Ground.phase }, { on := 1, ground := Ground.textOnly Departure.lateStores }, { on := 2, ground := Ground.phase }, { on := 3, ground := Ground.phase }, { on := 4, ground := Ground.phase }, { on := 5, ground := Ground.phase }, { on := 6, ground := Ground.phase }, { on := 7, ground := Ground.phase }, { on := 8, ground := Ground.textOnly Departure.lateStores }, { on := 9, ground := Ground.textOnly Departure.lateStoresUnsure }, { on := 10, ground := Ground.textOnly Departure.lateStoresUnsure }, { on := 11, ground := Ground.phase }, { on := 12, ground := Ground.textOnly Departure.lateStoresUnsure }], guard := none }) (v := ?vd13_3) rfl rfl (by kernel_rfl) (by kernel_rfl) (by kernel_rfl) (fun _ _ _ h => h) ⟨Or.inl ⟨by rfl, ?hd13_3⟩, fun _ => rfl⟩ ?_
            case hd13_3 => (intro w; go_simp; (try with_reducible rfl))
            try simp only [Act.put, List.setIfInBounds_toArray, List.set_cons_zero, List.set_cons_succ]
            refine wpAnyIn_take (i := 14) (oi := { dst := some 63, op := Op.fieldAddr 46 (Operand.tmp 62) 0, type := 0, pos := "lock.go:110", after := #[{ on := 13, ground := Ground.data }, { on := 0, ground := Ground.phase }, { on := 1, ground := Ground.textOnly Departure.lateStores }, { on := 2, ground := Ground.phase }, { on := 3, ground := Ground.phase }, { on := 4, ground := Ground.phase }, { on := 5, ground := Ground.phase }, { on := 6, ground := Ground.phase }, { on := 7, ground := Ground.phase }, { on := 8, ground := Ground.textOnly Departure.lateStores }, { on := 9, ground := Ground.textOnly Departure.lateStoresUnsure }, { on := 10, ground := Ground.textOnly Departure.lateStoresUnsure }, { on := 11, ground := Ground.phase }, { on := 12, ground := Ground.textOnly Departure.lateStoresUnsure }], guard := none }) (v := ?vd14_4) rfl rfl (by kernel_rfl) (by kernel_rfl) (by kernel_rfl) (fun _ _ _ h => h) ⟨Or.inl ⟨by rfl, ?hd14_4⟩, fun _ => rfl⟩ ?_
            case hd14_4 => (intro w; go_simp; (try with_reducible rfl))
            try simp only [Act.put, List.setIfInBounds_toArray, List.set_cons_zero, List.set_cons_succ]
            refine wpAnyIn_ready (rs := [12, 15]) (by kernel_rfl) (by simp) ?_
            refine AllReadyIn.cons (o := { dst := some 61, op := Op.slice 30 (Operand.tmp 60) (some (Operand.const (Value.int IntKind.i64 1))) none none, type := 30, pos := "lock.go:110", after := #[{ on := 11, ground := Ground.data }], guard := none }) rfl (fun K hK => ?_) ?_
            · go_simp
              exact hK _ _ Hd1.out
            refine AllReadyIn.cons (o := { dst := none, op := Op.store 3 (Operand.tmp 63) (Operand.tmp 56), type := 0, pos := "lock.go:110", after := #[{ on := 14, ground := Ground.data }, { on := 7, ground := Ground.data }, { on := 0, ground := Ground.phase }, { on := 1, ground := Ground.textOnly Departure.lateStores }, { on := 2, ground := Ground.phase }, { on := 3, ground := Ground.phase }, { on := 4, ground := Ground.phase }, { on := 5, ground := Ground.phase }, { on := 6, ground := Ground.phase }, { on := 7, ground := Ground.phase }, { on := 8, ground := Ground.textOnly Departure.lateStores }, { on := 9, ground := Ground.textOnly Departure.lateStoresUnsure }, { on := 10, ground := Ground.textOnly Departure.lateStoresUnsure }, { on := 11, ground := Ground.phase }, { on := 12, ground := Ground.textOnly Departure.lateStoresUnsure }], guard := none }) rfl (fun K hK => ?_) ?_
            · go_simp
              rw [HWa.out]
              exact hK _ _ Hd2.out
            exact AllReadyIn.nil
          refine wpAnyIn_via (fuel' := 8) (listed' := #[true, true, true, true, true, true, true, true, true, true, true, false, false, false, false, false, false, false, false]) (a' := { tmps := #[.pointer (some ⟨X, 0, none⟩), .int .i64 (a : Int), undef, .pointer (some ⟨B, 0, none⟩), .slice none 0 0, u5, u6, .pointer (some ⟨B2, 0, none⟩), .pointer (some ⟨X, 1 + k * 2, none⟩), .pointer (some ⟨X, 0, none⟩), .int .i64 (a : Int), .bool true, .bool false, .int .i64 70, .bool false, u15, u16, u17, u18, u19, u20, u21, u22, u23, u24, u25, u26, u27, u28, u29, u30, u31, u32, u33, u34, u35, u36, u37, u38, u39, .pointer (some ⟨X, 0, none⟩), .func (.func 27) #[] #[.pointer (some ⟨B2 + 1, 0, none⟩)], .pointer (some ⟨X, 1 + k * 2, none⟩), .pointer (some ⟨X, 1 + k * 2, none⟩), .pointer (some ⟨X, 1 + k * 2, none⟩), .pointer (some ⟨X, 1 + k * 2 + 1, none⟩), .slice (some ⟨g, o, none⟩) n cap, .int .i64 (n : Int), .bool true, .pointer (some ⟨X, 1 + k * 2, none⟩), .pointer (some ⟨X, 1 + k * 2, none⟩), .pointer (some ⟨X, 1 + k * 2, none⟩), .pointer (some ⟨X, 1 + k * 2, none⟩), .pointer (some ⟨X, 1 + k * 2 + 1, none⟩), .slice (some ⟨g, o, none⟩) n cap, .pointer (some ⟨g, o, none⟩), .int .i64 (y : Int), .pointer (some ⟨X, 1 + k * 2, none⟩), .pointer (some ⟨X, 1 + k * 2, none⟩), .pointer (some ⟨X, 1 + k * 2 + 1, none⟩), undef, undef, undef, undef, undef, undef, undef, undef, undef, undef, undef, undef, undef, undef], defers := [] }) (w' := V) ?cHd4 (fun Hd4 => ?_)
          case cHd4 =>
            refine wpAnyIn_ready (rs := [11]) (by kernel_rfl) (by simp) ?_
            refine AllReadyIn.cons (o := { dst := some 60, op := Op.load 30 (Operand.tmp 59), type := 30, pos := "lock.go:110", after := #[{ on := 10, ground := Ground.data }], guard := none }) rfl (fun K hK => ?_) ?_
            · go_simp
              exact hK _ _ Hd3.out
            exact AllReadyIn.nil
          refine wpAnyIn_via (fuel' := 6) (listed' := #[true, true, true, true, true, true, true, true, true, true, true, true, true, false, false, false, false, false, false]) (a' := { tmps := #[.pointer (some ⟨X, 0, none⟩), .int .i64 (a : Int), undef, .pointer (some ⟨B, 0, none⟩), .slice none 0 0, u5, u6, .pointer (some ⟨B2, 0, none⟩), .pointer (some ⟨X, 1 + k * 2, none⟩), .pointer (some ⟨X, 0, none⟩), .int .i64 (a : Int), .bool true, .bool false, .int .i64 70, .bool false, u15, u16, u17, u18, u19, u20, u21, u22, u23, u24, u25, u26, u27, u28, u29, u30, u31, u32, u33, u34, u35, u36, u37, u38, u39, .pointer (some ⟨X, 0, none⟩), .func (.func 27) #[] #[.pointer (some ⟨B2 + 1, 0, none⟩)], .pointer (some ⟨X, 1 + k * 2, none⟩), .pointer (some ⟨X, 1 + k * 2, none⟩), .pointer (some ⟨X, 1 + k * 2, none⟩), .pointer (some ⟨X, 1 + k * 2 + 1, none⟩), .slice (some ⟨g, o, none⟩) n cap, .int .i64 (n : Int), .bool true, .pointer (some ⟨X, 1 + k * 2, none⟩), .pointer (some ⟨X, 1 + k * 2, none⟩), .pointer (some ⟨X, 1 + k * 2, none⟩), .pointer (some ⟨X, 1 + k * 2, none⟩), .pointer (some ⟨X, 1 + k * 2 + 1, none⟩), .slice (some ⟨g, o, none⟩) n cap, .pointer (some ⟨g, o, none⟩), .int .i64 (y : Int), .pointer (some ⟨X, 1 + k * 2, none⟩), .pointer (some ⟨X, 1 + k * 2, none⟩), .pointer (some ⟨X, 1 + k * 2 + 1, none⟩), .slice (some ⟨g, o, none⟩) n cap, .slice ta tn tc, undef, undef, undef, undef, undef, undef, undef, undef, undef, undef, undef, undef], defers := [] }) (w' := V) ?cHd5 (fun Hd5 => ?_)
          case cHd5 =>
            refine wpAnyIn_take (i := 13) (oi := { dst := some 62, op := Op.nilCheck (Operand.tmp 49), type := 0, pos := "lock.go:110", after := #[{ on := 0, ground := Ground.data }, { on := 0, ground := Ground.phase }, { on := 1, ground := Ground.textOnly Departure.lateStores }, { on := 2, ground := Ground.phase }, { on := 3, ground := Ground.phase }, { on := 4, ground := Ground.phase }, { on := 5, ground := Ground.phase }, { on := 6, ground := Ground.phase }, { on := 7, ground := Ground.phase }, { on := 8, ground := Ground.textOnly Departure.lateStores }, { on := 9, ground := Ground.textOnly Departure.lateStoresUnsure }, { on := 10, ground := Ground.textOnly Departure.lateStoresUnsure }, { on := 11, ground := Ground.phase }, { on := 12, ground := Ground.textOnly Departure.lateStoresUnsure }], guard := none }) (v := ?vd13_5) rfl rfl (by kernel_rfl) (by kernel_rfl) (by kernel_rfl) (fun _ _ _ h => h) ⟨Or.inl ⟨by rfl, ?hd13_5⟩, fun _ => rfl⟩ ?_
            case hd13_5 => (intro w; go_simp; (try with_reducible rfl))
            try simp only [Act.put, List.setIfInBounds_toArray, List.set_cons_zero, List.set_cons_succ]
            refine wpAnyIn_take (i := 14) (oi := { dst := some 63, op := Op.fieldAddr 46 (Operand.tmp 62) 0, type := 0, pos := "lock.go:110", after := #[{ on := 13, ground := Ground.data }, { on := 0, ground := Ground.phase }, { on := 1, ground := Ground.textOnly Departure.lateStores }, { on := 2, ground := Ground.phase }, { on := 3, ground := Ground.phase }, { on := 4, ground := Ground.phase }, { on := 5, ground := Ground.phase }, { on := 6, ground := Ground.phase }, { on := 7, ground := Ground.phase }, { on := 8, ground := Ground.textOnly Departure.lateStores }, { on := 9, ground := Ground.textOnly Departure.lateStoresUnsure }, { on := 10, ground := Ground.textOnly Departure.lateStoresUnsure }, { on := 11, ground := Ground.phase }, { on := 12, ground := Ground.textOnly Departure.lateStoresUnsure }], guard := none }) (v := ?vd14_6) rfl rfl (by kernel_rfl) (by kernel_rfl) (by kernel_rfl) (fun _ _ _ h => h) ⟨Or.inl ⟨by rfl, ?hd14_6⟩, fun _ => rfl⟩ ?_
            case hd14_6 => (intro w; go_simp; (try with_reducible rfl))
            try simp only [Act.put, List.setIfInBounds_toArray, List.set_cons_zero, List.set_cons_succ]
            refine wpAnyIn_ready (rs := [15]) (by kernel_rfl) (by simp) ?_
            refine AllReadyIn.cons (o := { dst := none, op := Op.store 3 (Operand.tmp 63) (Operand.tmp 56), type := 0, pos := "lock.go:110", after := #[{ on := 14, ground := Ground.data }, { on := 7, ground := Ground.data }, { on := 0, ground := Ground.phase }, { on := 1, ground := Ground.textOnly Departure.lateStores }, { on := 2, ground := Ground.phase }, { on := 3, ground := Ground.phase }, { on := 4, ground := Ground.phase }, { on := 5, ground := Ground.phase }, { on := 6, ground := Ground.phase }, { on := 7, ground := Ground.phase }, { on := 8, ground := Ground.textOnly Departure.lateStores }, { on := 9, ground := Ground.textOnly Departure.lateStoresUnsure }, { on := 10, ground := Ground.textOnly Departure.lateStoresUnsure }, { on := 11, ground := Ground.phase }, { on := 12, ground := Ground.textOnly Departure.lateStoresUnsure }], guard := none }) rfl (fun K hK => ?_) ?_
            · go_simp
              rw [HWa.out]
              exact hK _ _ Hd0.out
            exact AllReadyIn.nil
          refine wpAnyIn_via (fuel' := 7) (listed' := #[true, true, true, true, true, true, true, false, true, true, true, true, true, false, false, false, false, false, false]) (a' := { tmps := #[.pointer (some ⟨X, 0, none⟩), .int .i64 (a : Int), undef, .pointer (some ⟨B, 0, none⟩), .slice none 0 0, u5, u6, .pointer (some ⟨B2, 0, none⟩), .pointer (some ⟨X, 1 + k * 2, none⟩), .pointer (some ⟨X, 0, none⟩), .int .i64 (a : Int), .bool true, .bool false, .int .i64 70, .bool false, u15, u16, u17, u18, u19, u20, u21, u22, u23, u24, u25, u26, u27, u28, u29, u30, u31, u32, u33, u34, u35, u36, u37, u38, u39, .pointer (some ⟨X, 0, none⟩), .func (.func 27) #[] #[.pointer (some ⟨B2 + 1, 0, none⟩)], .pointer (some ⟨X, 1 + k * 2, none⟩), .pointer (some ⟨X, 1 + k * 2, none⟩), .pointer (some ⟨X, 1 + k * 2, none⟩), .pointer (some ⟨X, 1 + k * 2 + 1, none⟩), .slice (some ⟨g, o, none⟩) n cap, .int .i64 (n : Int), .bool true, .pointer (some ⟨X, 1 + k * 2, none⟩), .pointer (some ⟨X, 1 + k * 2, none⟩), .pointer (some ⟨X, 1 + k * 2, none⟩), .pointer (some ⟨X, 1 + k * 2, none⟩), .pointer (some ⟨X, 1 + k * 2 + 1, none⟩), .slice (some ⟨g, o, none⟩) n cap, .pointer (some ⟨g, o, none⟩), undef, .pointer (some ⟨X, 1 + k * 2, none⟩), .pointer (some ⟨X, 1 + k * 2, none⟩), .pointer (some ⟨X, 1 + k * 2 + 1, none⟩), .slice (some ⟨g, o, none⟩) n cap, .slice ta tn tc, undef, undef, undef, undef, undef, undef, undef, undef, undef, undef, undef, undef], defers := [] }) (w' := V) ?cHd6 (fun Hd6 => ?_)
          case cHd6 =>
            refine wpAnyIn_ready (rs := [7]) (by kernel_rfl) (by simp) ?_
            refine AllReadyIn.cons (o := { dst := some 56, op := Op.load 3 (Operand.tmp 55), type := 3, pos := "lock.go:110", after := #[{ on := 6, ground := Ground.data }], guard := none }) rfl (fun K hK => ?_) ?_
            · go_simp
              exact hK _ _ Hd5.out
            exact AllReadyIn.nil
          refine wpAnyIn_via (fuel' := 8) (listed' := #[true, true, true, true, true, true, true, false, true, true, true, true, false, false, false, false, false, false, false]) (a' := { tmps := #[.pointer (some ⟨X, 0, none⟩), .int .i64 (a : Int), undef, .pointer (some ⟨B, 0, none⟩), .slice none 0 0, u5, u6, .pointer (some ⟨B2, 0, none⟩), .pointer (some ⟨X, 1 + k * 2, none⟩), .pointer (some ⟨X, 0, none⟩), .int .i64 (a : Int), .bool true, .bool false, .int .i64 70, .bool false, u15, u16, u17, u18, u19, u20, u21, u22, u23, u24, u25, u26, u27, u28, u29, u30, u31, u32, u33, u34, u35, u36, u37, u38, u39, .pointer (some ⟨X, 0, none⟩), .func (.func 27) #[] #[.pointer (some ⟨B2 + 1, 0, none⟩)], .pointer (some ⟨X, 1 + k * 2, none⟩), .pointer (some ⟨X, 1 + k * 2, none⟩), .pointer (some ⟨X, 1 + k * 2, none⟩), .pointer (some ⟨X, 1 + k * 2 + 1, none⟩), .slice (some ⟨g, o, none⟩) n cap, .int .i64 (n : Int), .bool true, .pointer (some ⟨X, 1 + k * 2, none⟩), .pointer (some ⟨X, 1 + k * 2, none⟩), .pointer (some ⟨X, 1 + k * 2, none⟩), .pointer (some ⟨X, 1 + k * 2, none⟩), .pointer (some ⟨X, 1 + k * 2 + 1, none⟩), .slice (some ⟨g, o, none⟩) n cap, .pointer (some ⟨g, o, none⟩), undef, .pointer (some ⟨X, 1 + k * 2, none⟩), .pointer (some ⟨X, 1 + k * 2, none⟩), .pointer (some ⟨X, 1 + k * 2 + 1, none⟩), .slice (some ⟨g, o, none⟩) n cap, undef, undef, undef, undef, undef, undef, undef, undef, undef, undef, undef, undef, undef], defers := [] }) (w' := V) ?cHd7 (fun Hd7 => ?_)
          case cHd7 =>
            refine wpAnyIn_ready (rs := [7, 12]) (by kernel_rfl) (by simp) ?_
            refine AllReadyIn.cons (o := { dst := some 56, op := Op.load 3 (Operand.tmp 55), type := 3, pos := "lock.go:110", after := #[{ on := 6, ground := Ground.data }], guard := none }) rfl (fun K hK => ?_) ?_
            · go_simp
              exact hK _ _ Hd3.out
            refine AllReadyIn.cons (o := { dst := some 61, op := Op.slice 30 (Operand.tmp 60) (some (Operand.const (Value.int IntKind.i64 1))) none none, type := 30, pos := "lock.go:110", after := #[{ on := 11, ground := Ground.data }], guard := none }) rfl (fun K hK => ?_) ?_
            · go_simp
              exact hK _ _ Hd6.out
            exact AllReadyIn.nil
          refine wpAnyIn_via (fuel' := 9) (listed' := #[true, true, true, true, true, true, true, false, true, true, true, false, false, false, false, false, false, false, false]) (a' := { tmps := #[.pointer (some ⟨X, 0, none⟩), .int .i64 (a : Int), undef, .pointer (some ⟨B, 0, none⟩), .slice none 0 0, u5, u6, .pointer (some ⟨B2, 0, none⟩), .pointer (some ⟨X, 1 + k * 2, none⟩), .pointer (some ⟨X, 0, none⟩), .int .i64 (a : Int), .bool true, .bool false, .int .i64 70, .bool false, u15, u16, u17, u18, u19, u20, u21, u22, u23, u24, u25, u26, u27, u28, u29, u30, u31, u32, u33, u34, u35, u36, u37, u38, u39, .pointer (some ⟨X, 0, none⟩), .func (.func 27) #[] #[.pointer (some ⟨B2 + 1, 0, none⟩)], .pointer (some ⟨X, 1 + k * 2, none⟩), .pointer (some ⟨X, 1 + k * 2, none⟩), .pointer (some ⟨X, 1 + k * 2, none⟩), .pointer (some ⟨X, 1 + k * 2 + 1, none⟩), .slice (some ⟨g, o, none⟩) n cap, .int .i64 (n : Int), .bool true, .pointer (some ⟨X, 1 + k * 2, none⟩), .pointer (some ⟨X, 1 + k * 2, none⟩), .pointer (some ⟨X, 1 + k * 2, none⟩), .pointer (some ⟨X, 1 + k * 2, none⟩), .pointer (some ⟨X, 1 + k * 2 + 1, none⟩), .slice (some ⟨g, o, none⟩) n cap, .pointer (some ⟨g, o, none⟩), undef, .pointer (some ⟨X, 1 + k * 2, none⟩), .pointer (some ⟨X, 1 + k * 2, none⟩), .pointer (some ⟨X, 1 + k * 2 + 1, none⟩), undef, undef, undef, undef, undef, undef, undef, undef, undef, undef, undef, undef, undef, undef], defers := [] }) (w' := V) ?cHd8 (fun Hd8 => ?_)
          case cHd8 =>
            refine wpAnyIn_ready (rs := [7, 11]) (by kernel_rfl) (by simp) ?_
            refine AllReadyIn.cons (o := { dst := some 56, op := Op.load 3 (Operand.tmp 55), type := 3, pos := "lock.go:110", after := #[{ on := 6, ground := Ground.data }], guard := none }) rfl (fun K hK => ?_) ?_
            · go_simp
              exact hK _ _ Hd4.out
            refine AllReadyIn.cons (o := { dst := some 60, op := Op.load 30 (Operand.tmp 59), type := 30, pos := "lock.go:110", after := #[{ on := 10, ground := Ground.data }], guard := none }) rfl (fun K hK => ?_) ?_
            · go_simp
              exact hK _ _ Hd7.out
            exact AllReadyIn.nil
          refine wpAnyIn_via (fuel' := 8) (listed' := #[true, true, true, true, true, true, false, false, true, true, true, true, true, false, false, false, false, false, false]) (a' := { tmps := #[.pointer (some ⟨X, 0, none⟩), .int .i64 (a : Int), undef, .pointer (some ⟨B, 0, none⟩), .slice none 0 0, u5, u6, .pointer (some ⟨B2, 0, none⟩), .pointer (some ⟨X, 1 + k * 2, none⟩), .pointer (some ⟨X, 0, none⟩), .int .i64 (a : Int), .bool true, .bool false, .int .i64 70, .bool false, u15, u16, u17, u18, u19, u20, u21, u22, u23, u24, u25, u26, u27, u28, u29, u30, u31, u32, u33, u34, u35, u36, u37, u38, u39, .pointer (some ⟨X, 0, none⟩), .func (.func 27) #[] #[.pointer (some ⟨B2 + 1, 0, none⟩)], .pointer (some ⟨X, 1 + k * 2, none⟩), .pointer (some ⟨X, 1 + k * 2, none⟩), .pointer (some ⟨X, 1 + k * 2, none⟩), .pointer (some ⟨X, 1 + k * 2 + 1, none⟩), .slice (some ⟨g, o, none⟩) n cap, .int .i64 (n : Int), .bool true, .pointer (some ⟨X, 1 + k * 2, none⟩), .pointer (some ⟨X, 1 + k * 2, none⟩), .pointer (some ⟨X, 1 + k * 2, none⟩), .pointer (some ⟨X, 1 + k * 2, none⟩), .pointer (some ⟨X, 1 + k * 2 + 1, none⟩), .slice (some ⟨g, o, none⟩) n cap, undef, undef, .pointer (some ⟨X, 1 + k * 2, none⟩), .pointer (some ⟨X, 1 + k * 2, none⟩), .pointer (some ⟨X, 1 + k * 2 + 1, none⟩), .slice (some ⟨g, o, none⟩) n cap, .slice ta tn tc, undef, undef, undef, undef, undef, undef, undef, undef, undef, undef, undef, undef], defers := [] }) (w' := V) ?cHd9 (fun Hd9 => ?_)
          case cHd9 =>
            refine wpAnyIn_ready (rs := [6]) (by kernel_rfl) (by simp) ?_
            refine AllReadyIn.cons (o := { dst := some 55, op := Op.indexAddr 30 (Operand.tmp 54) (Operand.const (Value.int IntKind.i64 0)), type := 0, pos := "lock.go:110", after := #[{ on := 5, ground := Ground.data }], guard := none }) rfl (fun K hK => ?_) ?_
            · go_simp
              exact hK _ _ Hd6.out
            exact AllReadyIn.nil
          refine wpAnyIn_via (fuel' := 9) (listed' := #[true, true, true, true, true, true, false, false, true, true, true, true, false, false, false, false, false, false, false]) (a' := { tmps := #[.pointer (some ⟨X, 0, none⟩), .int .i64 (a : Int), undef, .pointer (some ⟨B, 0, none⟩), .slice none 0 0, u5, u6, .pointer (some ⟨B2, 0, none⟩), .pointer (some ⟨X, 1 + k * 2, none⟩), .pointer (some ⟨X, 0, none⟩), .int .i64 (a : Int), .bool true, .bool false, .int .i64 70, .bool false, u15, u16, u17, u18, u19, u20, u21, u22, u23, u24, u25, u26, u27, u28, u29, u30, u31, u32, u33, u34, u35, u36, u37, u38, u39, .pointer (some ⟨X, 0, none⟩), .func (.func 27) #[] #[.pointer (some ⟨B2 + 1, 0, none⟩)], .pointer (some ⟨X, 1 + k * 2, none⟩), .pointer (some ⟨X, 1 + k * 2, none⟩), .pointer (some ⟨X, 1 + k * 2, none⟩), .pointer (some ⟨X, 1 + k * 2 + 1, none⟩), .slice (some ⟨g, o, none⟩) n cap, .int .i64 (n : Int), .bool true, .pointer (some ⟨X, 1 + k * 2, none⟩), .pointer (some ⟨X, 1 + k * 2, none⟩), .pointer (some ⟨X, 1 + k * 2, none⟩), .pointer (some ⟨X, 1 + k * 2, none⟩), .pointer (some ⟨X, 1 + k * 2 + 1, none⟩), .slice (some ⟨g, o, none⟩) n cap, undef, undef, .pointer (some ⟨X, 1 + k * 2, none⟩), .pointer (some ⟨X, 1 + k * 2, none⟩), .pointer (some ⟨X, 1 + k * 2 + 1, none⟩), .slice (some ⟨g, o, none⟩) n cap, undef, undef, undef, undef, undef, undef, undef, undef, undef, undef, undef, undef, undef], defers := [] }) (w' := V) ?cHd10 (fun Hd10 => ?_)
          case cHd10 =>
            refine wpAnyIn_ready (rs := [6, 12]) (by kernel_rfl) (by simp) ?_
            refine AllReadyIn.cons (o := { dst := some 55, op := Op.indexAddr 30 (Operand.tmp 54) (Operand.const (Value.int IntKind.i64 0)), type := 0, pos := "lock.go:110", after := #[{ on := 5, ground := Ground.data }], guard := none }) rfl (fun K hK => ?_) ?_
            · go_simp
              exact hK _ _ Hd7.out
            refine AllReadyIn.cons (o := { dst := some 61, op := Op.slice 30 (Operand.tmp 60) (some (Operand.const (Value.int IntKind.i64 1))) none none, type := 30, pos := "lock.go:110", after := #[{ on := 11, ground := Ground.data }], guard := none }) rfl (fun K hK => ?_) ?_
            · go_simp
              exact hK _ _ Hd9.out
            exact AllReadyIn.nil
          refine wpAnyIn_via (fuel' := 10) (listed' := #[true, true, true, true, true, true, false, false, true, true, true, false, false, false, false, false, false, false, false]) (a' := { tmps := #[.pointer (some ⟨X, 0, none⟩), .int .i64 (a : Int), undef, .pointer (some ⟨B, 0, none⟩), .slice none 0 0, u5, u6, .pointer (some ⟨B2, 0, none⟩), .pointer (some ⟨X, 1 + k * 2, none⟩), .pointer (some ⟨X, 0, none⟩), .int .i64 (a : Int), .bool true, .bool false, .int .i64 70, .bool false, u15, u16, u17, u18, u19, u20, u21, u22, u23, u24, u25, u26, u27, u28, u29, u30, u31, u32, u33, u34, u35, u36, u37, u38, u39, .pointer (some ⟨X, 0, none⟩), .func (.func 27) #[] #[.pointer (some ⟨B2 + 1, 0, none⟩)], .pointer (some ⟨X, 1 + k * 2, none⟩), .pointer (some ⟨X, 1 + k * 2, none⟩), .pointer (some ⟨X, 1 + k * 2, none⟩), .pointer (some ⟨X, 1 + k * 2 + 1, none⟩), .slice (some ⟨g, o, none⟩) n cap, .int .i64 (n : Int), .bool true, .pointer (some ⟨X, 1 + k * 2, none⟩), .pointer (some ⟨X, 1 + k * 2, none⟩), .pointer (some ⟨X, 1 + k * 2, none⟩), .pointer (some ⟨X, 1 + k * 2, none⟩), .pointer (some ⟨X, 1 + k * 2 + 1, none⟩), .slice (some ⟨g, o, none⟩) n cap, undef, undef, .pointer (some ⟨X, 1 + k * 2, none⟩), .pointer (some ⟨X, 1 + k * 2, none⟩), .pointer (some ⟨X, 1 + k * 2 + 1, none⟩), undef, undef, undef, undef, undef, undef, undef, undef, undef, undef, undef, undef, undef, undef], defers := [] }) (w' := V) ?cHd11 (fun Hd11 => ?_)
          case cHd11 =>
            refine wpAnyIn_ready (rs := [6, 11]) (by kernel_rfl) (by simp) ?_
            refine AllReadyIn.cons (o := { dst := some 55, op := Op.indexAddr 30 (Operand.tmp 54) (Operand.const (Value.int IntKind.i64 0)), type := 0, pos := "lock.go:110", after := #[{ on := 5, ground := Ground.data }], guard := none }) rfl (fun K hK => ?_) ?_
            · go_simp
              exact hK _ _ Hd8.out
            refine AllReadyIn.cons (o := { dst := some 60, op := Op.load 30 (Operand.tmp 59), type := 30, pos := "lock.go:110", after := #[{ on := 10, ground := Ground.data }], guard := none }) rfl (fun K hK => ?_) ?_
            · go_simp
              exact hK _ _ Hd10.out
            exact AllReadyIn.nil
          refine wpAnyIn_via (fuel' := 9) (listed' := #[true, true, true, true, true, false, false, false, true, true, true, true, true, false, false, false, false, false, false]) (a' := { tmps := #[.pointer (some ⟨X, 0, none⟩), .int .i64 (a : Int), undef, .pointer (some ⟨B, 0, none⟩), .slice none 0 0, u5, u6, .pointer (some ⟨B2, 0, none⟩), .pointer (some ⟨X, 1 + k * 2, none⟩), .pointer (some ⟨X, 0, none⟩), .int .i64 (a : Int), .bool true, .bool false, .int .i64 70, .bool false, u15, u16, u17, u18, u19, u20, u21, u22, u23, u24, u25, u26, u27, u28, u29, u30, u31, u32, u33, u34, u35, u36, u37, u38, u39, .pointer (some ⟨X, 0, none⟩), .func (.func 27) #[] #[.pointer (some ⟨B2 + 1, 0, none⟩)], .pointer (some ⟨X, 1 + k * 2, none⟩), .pointer (some ⟨X, 1 + k * 2, none⟩), .pointer (some ⟨X, 1 + k * 2, none⟩), .pointer (some ⟨X, 1 + k * 2 + 1, none⟩), .slice (some ⟨g, o, none⟩) n cap, .int .i64 (n : Int), .bool true, .pointer (some ⟨X, 1 + k * 2, none⟩), .pointer (some ⟨X, 1 + k * 2, none⟩), .pointer (some ⟨X, 1 + k * 2, none⟩), .pointer (some ⟨X, 1 + k * 2, none⟩), .pointer (some ⟨X, 1 + k * 2 + 1, none⟩), undef, undef, undef, .pointer (some ⟨X, 1 + k * 2, none⟩), .pointer (some ⟨X, 1 + k * 2, none⟩), .pointer (some ⟨X, 1 + k * 2 + 1, none⟩), .slice (some ⟨g, o, none⟩) n cap, .slice ta tn tc, undef, undef, undef, undef, undef, undef, undef, undef, undef, undef, undef, undef], defers := [] }) (w' := V) ?cHd12 (fun Hd12 => ?_)
          case cHd12 =>
            refine wpAnyIn_ready (rs := [5]) (by kernel_rfl) (by simp) ?_
            refine AllReadyIn.cons (o := { dst := some 54, op := Op.load 30 (Operand.tmp 53), type := 30, pos := "lock.go:110", after := #[{ on := 4, ground := Ground.data }], guard := none }) rfl (fun K hK => ?_) ?_
            · go_simp
              exact hK _ _ Hd9.out
            exact AllReadyIn.nil
          refine wpAnyIn_via (fuel' := 10) (listed' := #[true, true, true, true, true, false, false, false, true, true, true, true, false, false, false, false, false, false, false]) (a' := { tmps := #[.pointer (some ⟨X, 0, none⟩), .int .i64 (a : Int), undef, .pointer (some ⟨B, 0, none⟩), .slice none 0 0, u5, u6, .pointer (some ⟨B2, 0, none⟩), .pointer (some ⟨X, 1 + k * 2, none⟩), .pointer (some ⟨X, 0, none⟩), .int .i64 (a : Int), .bool true, .bool false, .int .i64 70, .bool false, u15, u16, u17, u18, u19, u20, u21, u22, u23, u24, u25, u26, u27, u28, u29, u30, u31, u32, u33, u34, u35, u36, u37, u38, u39, .pointer (some ⟨X, 0, none⟩), .func (.func 27) #[] #[.pointer (some ⟨B2 + 1, 0, none⟩)], .pointer (some ⟨X, 1 + k * 2, none⟩), .pointer (some ⟨X, 1 + k * 2, none⟩), .pointer (some ⟨X, 1 + k * 2, none⟩), .pointer (some ⟨X, 1 + k * 2 + 1, none⟩), .slice (some ⟨g, o, none⟩) n cap, .int .i64 (n : Int), .bool true, .pointer (some ⟨X, 1 + k * 2, none⟩), .pointer (some ⟨X, 1 + k * 2, none⟩), .pointer (some ⟨X, 1 + k * 2, none⟩), .pointer (some ⟨X, 1 + k * 2, none⟩), .pointer (some ⟨X, 1 + k * 2 + 1, none⟩), undef, undef, undef, .pointer (some ⟨X, 1 + k * 2, none⟩), .pointer (some ⟨X, 1 + k * 2, none⟩), .pointer (some ⟨X, 1 + k * 2 + 1, none⟩), .slice (some ⟨g, o, none⟩) n cap, undef, undef, undef, undef, undef, undef, undef, undef, undef, undef, undef, undef, undef], defers := [] }) (w' := V) ?cHd13 (fun Hd13 => ?_)
          case cHd13 =>
            refine wpAnyIn_ready (rs := [5, 12]) (by kernel_rfl) (by simp) ?_
            refine AllReadyIn.cons (o := { dst := some 54, op := Op.load 30 (Operand.tmp 53), type := 30, pos := "lock.go:110", after := #[{ on := 4, ground := Ground.data }], guard := none }) rfl (fun K hK => ?_) ?_
            · go_simp
              exact hK _ _ Hd10.out
            refine AllReadyIn.cons (o := { dst := some 61, op := Op.slice 30 (Operand.tmp 60) (some (Operand.const (Value.int IntKind.i64 1))) none none, type := 30, pos := "lock.go:110", after := #[{ on := 11, ground := Ground.data }], guard := none }) rfl (fun K hK => ?_) ?_
            · go_simp
              exact hK _ _ Hd12.out
            exact AllReadyIn.nil
          refine wpAnyIn_take (i := 0) (oi := { dst := some 49, op := Op.move (Operand.tmp 8), type := 51, pos := "lock.go:110", after := #[], guard := none }) (v := ?vd0_7) rfl rfl (by kernel_rfl) (by kernel_rfl) (by kernel_rfl) (fun _ _ _ h => h) ⟨Or.inl ⟨by rfl, ?hd0_7⟩, fun _ => rfl⟩ ?_
          case hd0_7 => (intro w; go_simp; (try with_reducible rfl))
          try simp only [Act.put, List.setIfInBounds_toArray, List.set_cons_zero, List.set_cons_succ]
          refine wpAnyIn_take (i := 1) (oi := { dst := some 50, op := Op.move (Operand.tmp 8), type := 51, pos := "lock.go:110", after := #[{ on := 15, ground := Ground.gcOnly Departure.lateStores }], guard := none }) (v := ?vd1_8) rfl rfl (by kernel_rfl) (by kernel_rfl) (by kernel_rfl) (fun _ _ _ h => h) ⟨Or.inl ⟨by rfl, ?hd1_8⟩, fun _ => rfl⟩ ?_
          case hd1_8 => (intro w; go_simp; (try with_reducible rfl))
          try simp only [Act.put, List.setIfInBounds_toArray, List.set_cons_zero, List.set_cons_succ]
          refine wpAnyIn_take (i := 2) (oi := { dst := some 51, op := Op.move (Operand.tmp 8), type := 51, pos := "lock.go:110", after := #[], guard := none }) (v := ?vd2_9) rfl rfl (by kernel_rfl) (by kernel_rfl) (by kernel_rfl) (fun _ _ _ h => h) ⟨Or.inl ⟨by rfl, ?hd2_9⟩, fun _ => rfl⟩ ?_
          case hd2_9 => (intro w; go_simp; (try with_reducible rfl))
          try simp only [Act.put, List.setIfInBounds_toArray, List.set_cons_zero, List.set_cons_succ]
          refine wpAnyIn_take (i := 3) (oi := { dst := some 52, op := Op.nilCheck (Operand.tmp 51), type := 0, pos := "lock.go:110", after := #[{ on := 2, ground := Ground.data }], guard := none }) (v := ?vd3_10) rfl rfl (by kernel_rfl) (by kernel_rfl) (by kernel_rfl) (fun _ _ _ h => h) ⟨Or.inl ⟨by rfl, ?hd3_10⟩, fun _ => rfl⟩ ?_
          case hd3_10 => (intro w; go_simp; (try with_reducible rfl))
          try simp only [Act.put, List.setIfInBounds_toArray, List.set_cons_zero, List.set_cons_succ]
          refine wpAnyIn_take (i := 4) (oi := { dst := some 53, op := Op.fieldAddr 46 (Operand.tmp 52) 1, type := 0, pos := "lock.go:110", after := #[{ on := 3, ground := Ground.data }], guard := none }) (v := ?vd4_11) rfl rfl (by kernel_rfl) (by kernel_rfl) (by kernel_rfl) (fun _ _ _ h => h) ⟨Or.inl ⟨by rfl, ?hd4_11⟩, fun _ => rfl⟩ ?_
          case hd4_11 => (intro w; go_simp; (try with_reducible rfl))
          try simp only [Act.put, List.setIfInBounds_toArray, List.set_cons_zero, List.set_cons_succ]
          refine wpAnyIn_take (i := 8) (oi := { dst := some 57, op := Op.move (Operand.tmp 8), type := 51, pos := "lock.go:110", after := #[], guard := none }) (v := ?vd8_12) rfl rfl (by kernel_rfl) (by kernel_rfl) (by kernel_rfl) (fun _ _ _ h => h) ⟨Or.inl ⟨by rfl, ?hd8_12⟩, fun _ => rfl⟩ ?_
          case hd8_12 => (intro w; go_simp; (try with_reducible rfl))
          try simp only [Act.put, List.setIfInBounds_toArray, List.set_cons_zero, List.set_cons_succ]
          refine wpAnyIn_take (i := 9) (oi := { dst := some 58, op := Op.nilCheck (Operand.tmp 57), type := 0, pos := "lock.go:110", after := #[{ on := 8, ground := Ground.data }], guard := none }) (v := ?vd9_13) rfl rfl (by kernel_rfl) (by kernel_rfl) (by kernel_rfl) (fun _ _ _ h => h) ⟨Or.inl ⟨by rfl, ?hd9_13⟩, fun _ => rfl⟩ ?_
          case hd9_13 => (intro w; go_simp; (try with_reducible rfl))
          try simp only [Act.put, List.setIfInBounds_toArray, List.set_cons_zero, List.set_cons_succ]
          refine wpAnyIn_take (i := 10) (oi := { dst := some 59, op := Op.fieldAddr 46 (Operand.tmp 58) 1, type := 0, pos := "lock.go:110", after := #[{ on := 9, ground := Ground.data }], guard := none }) (v := ?vd10_14) rfl rfl (by kernel_rfl) (by kernel_rfl) (by kernel_rfl) (fun _ _ _ h => h) ⟨Or.inl ⟨by rfl, ?hd10_14⟩, fun _ => rfl⟩ ?_
          case hd10_14 => (intro w; go_simp; (try with_reducible rfl))
          try simp only [Act.put, List.setIfInBounds_toArray, List.set_cons_zero, List.set_cons_succ]
          refine wpAnyIn_ready (rs := [5, 11]) (by kernel_rfl) (by simp) ?_
          refine AllReadyIn.cons (o := { dst := some 54, op := Op.load 30 (Operand.tmp 53), type := 30, pos := "lock.go:110", after := #[{ on := 4, ground := Ground.data }], guard := none }) rfl (fun K hK => ?_) ?_
          · go_simp
            exact hK _ _ Hd11.out
          refine AllReadyIn.cons (o := { dst := some 60, op := Op.load 30 (Operand.tmp 59), type := 30, pos := "lock.go:110", after := #[{ on := 10, ground := Ground.data }], guard := none }) rfl (fun K hK => ?_) ?_
          · go_simp
            exact hK _ _ Hd13.out
          exact AllReadyIn.nil
      case done =>
        intro D ys W hD hys hL hK
        subst hys
        obtain ⟨ad, cap, hl, hr⟩ := hL.next
        have cB : W.cell? ⟨B2, 0, none⟩ = some (.slice ad (runS s0 (freeL s0.f 70)).nx.length cap) := by simp [World.cell?, hl]
        have HL := Lib.hid hL
        rw [← HG0.out.1] at cB hr
        obtain ⟨n, en⟩ : ∃ n, (giveG f q' ql a).nx.length = n := ⟨_, rfl⟩
        rw [en] at cB
        clear hL hC hb hl hr
        gi_wp2
        refine leaves_marks (B := B2) _ (D + 1) W ⟨D, rfl, by omega, by omega, hK, trivial⟩ ?_
        intro w' hw'
        have hG : GvI wr X m B2 q' (runS s0 (freeL s0.f 70)) w' := by
          have h0 := HL.out
          obtain ⟨ad2, cap2, h1, h2⟩ := h0.next
          have hT0 : Turn (fun i => i = X) wr w' := ⟨hw'.os.trans h0.turn.os, hw'.tape.trans h0.turn.tape, hw'.output.trans h0.turn.output, by rw [hw'.size]; exact h0.turn.size, fun i hi hn => (hw'.below i (by omega)).trans (h0.turn.block i hi hn)⟩
          exact ⟨hw'.cells _ _ _ _ h0.tab, ⟨ad2, cap2, hw'.cells _ _ _ _ h1, h2.1, by
            rcases h2.2 with h | ⟨g, c, cu, e1, e2, e3, r⟩
            · exact .inl h
            · exact .inr ⟨g, c, cu, e1, e2, hw'.cells _ _ _ _ e3, r⟩⟩, hT0, by rw [hw'.size]; exact h0.size, h0.rows⟩
        have hO' := HE.out _ _ hG
        rw [← HG0.out.1] at hO'
        exact ⟨_, results_tmp rfl _ _ _, _, _, rfl, hO'⟩
end Go.Proofs.Ytclicjdgkcnihaa
