/- ViewPlays, walked. -/
import Derived.Test.YtdohnfiaiganbaaViewK
import Derived.Test.YtdohnfiaiganbaaStps
import Derived.Deep.RegionHeld
namespace Go.Proofs.Ytdohnfiaiganbaa.viewPlays
open Go.RowKit Go.Grommet

set_option maxRecDepth 100000 in
set_option maxHeartbeats 1000000 in
theorem walk_far1 (a0 : Option Addr) (l0 c0 : Nat) (a1 : Option Addr) (l1 c1 : Nat) (w : World) (h : 1000 < l0) :
    Calls Try.prog 3 #[.slice a0 l0 c0, .slice a1 l1 c1] w (WorksIs w) := by
  have g1 : (1000 : Int) < (l0 : Int) := by omega
  go_enter Try.func3, Try.ntmps3
  go_wp2_with fail
  refine (works_any _).mono ?_
  rintro e w5 ⟨rfl, hg⟩
  go_wp2
  go_ret
  exact ⟨rfl, hg⟩
set_option maxRecDepth 100000 in
set_option maxHeartbeats 1000000 in
theorem walk_far2 (a0 : Option Addr) (l0 c0 : Nat) (a1 : Option Addr) (l1 c1 : Nat) (w : World) (h0 : ¬ 1000 < l0) (h : 300 < l1) :
    Calls Try.prog 3 #[.slice a0 l0 c0, .slice a1 l1 c1] w (WorksIs w) := by
  have g0 : ¬ (1000 : Int) < (l0 : Int) := by omega
  have g1 : (300 : Int) < (l1 : Int) := by omega
  go_enter Try.func3, Try.ntmps3
  go_wp2_with fail
  refine (works_any _).mono ?_
  rintro e w5 ⟨rfl, hg⟩
  go_wp2
  go_ret
  exact ⟨rfl, hg⟩

/-- The variable of a round. -/
def XB (X : Nat) (o a v : Int) : Pr := boxP X 31 #[.int .u8 o, .int .i64 a, .int .u64 v]
def SX (X : Nat) (o a v : Int) (w : World) : Prop := w.heap[X]? = some (.cells #[.int .u8 o, .int .i64 a, .int .u64 v] 31 (0, 0))
theorem SX.facts {X : Nat} {o a v : Int} {w : World} (h : SX X o a v w) : w.cell? ⟨X, 0, none⟩ = some (.int .u8 o) ∧ w.cell? ⟨X, 1, none⟩ = some (.int .i64 a) ∧ w.cell? ⟨X, 2, none⟩ = some (.int .u64 v) := by
  unfold SX at h
  simp [World.cell?, h]
/-- The document's view in its cells. -/
def SR (r : Nat) (vi : Value) (ad : Option Addr) (m cap : Nat) (b : Bool) (w : World) : Prop := w.heap[r]? = some (.cells [vi, .slice ad m cap, .bool b].toArray 35 (0, 0))
theorem SR.fact {r : Nat} {vi : Value} {ad : Option Addr} {m cap : Nat} {b : Bool} {w : World} (h : SR r vi ad m cap b w) : w.cell? ⟨r, 1, none⟩ = some (.slice ad m cap) := by
  unfold SR at h
  simp [World.cell?, h]
theorem SR.keep {r : Nat} {vi : Value} {ad : Option Addr} {m cap : Nat} {b : Bool} {w w' : World} (h : SR r vi ad m cap b w) (hg : w.grownBy w' none) : SR r vi ad m cap b w' :=
  (hg.block r (lt_of_block h) (by simp)).trans h
theorem row_at {w : World} {n : Nat} {v : Value} {ad : Option Addr} {cap : Nat} {L : List (Nat × Nat)} (h : w.ownsRow 0 44 2 v n (wcells L)) (hv : v = .slice ad n cap) : At w ad (wcells L) := by
  obtain ⟨ad', cap', he, hat, _⟩ := row_slice h
  rw [hv] at he
  cases he
  exact hat
/-- A view, its document's twin, and a row. -/
def Three (v0 : Value) (l0 : Nat) (ys : List Nat) (g r : Nat) (xs : List Nat) (L : List (Nat × Nat)) (b : Bool) : List Pr := [rowP 29 1 v0 l0 (ys.map wv), viewP g xs L, refP r xs L b]

set_option maxRecDepth 100000 in
set_option maxHeartbeats 8000000 in
theorem walk_at (a0 : Option Addr) (l0 c0 : Nat) (xs : List Nat) (a1 : Option Addr) (l1 c1 : Nat) (z1 : List Stp) (w : World) (hx : Words w a0 l0 xs) (hnil : a0 = none → l0 = 0 ∧ c0 = 0) (w1 : StpsIn w a1 l1 z1)
    (h0 : ¬ 1000 < l0) (h1 : ¬ 300 < l1) :
    Calls Try.prog 3 #[.slice a0 l0 c0, .slice a1 l1 c1] w (WorksIs w) := by
  have b0 : ¬ (1000 : Int) < (l0 : Int) := by omega
  have b1 : ¬ (300 : Int) < (l1 : Int) := by omega
  have HX := Lib.hid hx.len
  have HZ := Lib.hid w1.1
  have Hs := Lib.hid hx.small
  go_enter Try.func3, Try.ntmps3
  go_wp2_with (at_builtin; refine app64 rfl _ _ rfl w.heap.size _ 0 [] rfl (own_lit w _ 1 _ (Nat.le_refl _)) a0 l0 c0 xs rfl ?a1 hnil ?a2 ?a3 ?_)
  case a1 => exact hx.keep (World.grownBy_alloc w _ none) (by simp)
  case a2 => omega
  try case a3 => simp
  intro v1 u1 hown hg
  have hg := grown_new (World.grownBy_alloc w _ none) hg (by intro g e; cases e; exact Nat.le_refl _)
  try rw [List.nil_append, Nat.zero_add] at hown
  obtain ⟨ad2, cp2, rfl, hcl⟩ := row_slice hown
  clear hcl
  have hO : Own w u1 [rowP 29 1 (.slice ad2 l0 cp2) l0 (xs.map wv)] := (Own.nil w).addRow hown hg
  clear hown hg
  obtain ⟨hw2, hn2, _⟩ := Own.words hO 0 rfl Hs.out (by omega)
  have HN := Lib.hid (NewH ad2 l0 cp2 xs w u1 _ hO hw2 (by omega) hn2)
  clear hO hw2 hn2
  go_wp2_with fail
  refine HN.out.mono ?_
  rintro e u2 ⟨g, rfl, hO⟩
  clear HN
  have HN := Lib.hid (RefNewH a0 l0 c0 xs w u2 _ hO (hx.keep hO.grown (by simp)) (by omega) hnil)
  clear hO
  go_wp2_with fail
  refine HN.out.mono ?_
  rintro e u3 ⟨r, rfl, hO⟩
  clear HN
  have hO : Own w u3 (Three (.slice ad2 l0 cp2) l0 xs g r xs [] false) := hO
  replace hO := Lib.hid hO
  go_wp2_with fail
  go_loopw [8] (fun i wr => ∃ k : Nat, k ≤ l0 ∧ i = .int .i64 (k : Int) ∧ ∃ ys : List Nat, Hid (ys.length = l0 ∧ (∀ n ∈ ys, n < 18446744073709551616) ∧ Own w wr (Three (.slice ad2 l0 cp2) l0 ys g r xs [] false))) (fun i _ => l0 - (intOf i).toNat)
  case atStart => exact ⟨0, Nat.zero_le _, rfl, xs, Lib.hid ⟨HX.out, Hs.out, hO.out⟩⟩
  case round =>
    clear hO
    obtain ⟨k, hk, rfl, ys, HY⟩ := hrel
    have k0 : (0 : Int) ≤ (k : Int) := by omega
    by_cases hlt : k < l0
    · have hlt' : (k : Int) < (l0 : Int) := by omega
      obtain ⟨q, rfl, d0, d1, hcp⟩ := Own.word HY.out.2.2 0 rfl HY.out.1 k hlt
      have hs := HY.out.2.1 _ (getD_mem ys k 0 (by rw [HY.out.1]; exact hlt))
      obtain ⟨Y, hY⟩ : ∃ Y, Hid (Y = ys.getD k 0) := ⟨_, Lib.hid rfl⟩
      rw [← hY.out] at d0 hs
      have t4 := wrap_succ Y hs
      obtain ⟨U, hU⟩ : ∃ U : Nat, Hid (U = (Y + 1) % 18446744073709551616) := ⟨_, Lib.hid rfl⟩
      rw [← hU.out] at t4
      have hUs : Hid (U < 18446744073709551616) := Lib.hid (by rw [hU.out]; exact Nat.mod_lt _ (by decide))
      have HS := Lib.hid (Own.store HY.out.2.2 0 rfl k (wv U))
      clear hs
      go_wp2
      go_roundw
      case rel =>
        refine ⟨k + 1, by omega, by go_num, ys.set k U, Lib.hid ⟨by rw [List.length_set]; exact HY.out.1, ?_, ?_⟩⟩
        · intro n hn
          rcases List.mem_or_eq_of_mem_set hn with h | h
          · exact HY.out.2.1 n h
          · rw [h]; exact hUs.out
        · have := HS.out
          rw [map_wv_set] at this
          exact this
      case measure => simp [intOf]; omega
    · have hlt' : ¬ (k : Int) < (l0 : Int) := by omega
      have HO := Lib.hid HY.out.2.2
      clear HY
      go_wp2_with fail
      go_loopw [9] (fun i wr => ∃ k : Nat, k ≤ l1 ∧ i = .int .i64 (k : Int) ∧ ∃ (L : List (Nat × Nat)) (b : Bool), Hid (Own w wr (Three (.slice ad2 l0 cp2) l0 ys g r xs L b))) (fun i _ => l1 - (intOf i).toNat)
      case atStart => exact ⟨0, Nat.zero_le _, rfl, [], false, HO⟩
      case round =>
        clear HO
        obtain ⟨j, hj, rfl, L, b, HO⟩ := hrel
        have j0 : (0 : Int) ≤ (j : Int) := by omega
        by_cases hjt : j < l1
        · have hjt' : (j : Int) < (l1 : Int) := by omega
          have hjz : j < z1.length := by rw [HZ.out]; exact hjt
          obtain ⟨s, hs⟩ : ∃ s, z1[j]? = some s := ⟨_, List.getElem?_eq_getElem hjz⟩
          have hsm := w1.2.1 s (List.mem_of_getElem? hs)
          obtain ⟨q, p, rfl, d0, d1, d2⟩ := (w1.grown HO.out.grown).2.2 j s hs
          have bo := bounds_u8 hsm.1
          have bv := bounds_u64 hsm.2.2
          obtain ⟨V, hV⟩ : ∃ V : Nat, s.vv = (V : Int) := ⟨s.vv.toNat, by omega⟩
          have hVs : V < 18446744073709551616 := by omega
          obtain ⟨O, hO'⟩ : ∃ O : Nat, s.op = (O : Int) := ⟨s.op.toNat, by omega⟩
          rw [hV] at d2
          rw [hO'] at d0
          have hO2 : O < 256 := by omega
          generalize s.ad = A at d1
          clear hs hsm bo bv hV hO' s
          have HV := Lib.hid hVs
          clear hVs
          obtain ⟨D, HD⟩ : ∃ D : Nat, Hid (D = O % 5) := ⟨_, Lib.hid rfl⟩
          have m1 : (O : Int).tmod 5 = (D : Int) := by rw [HD.out, Int.tmod_eq_emod_of_nonneg (by omega)]; omega
          have m2 : (O : Int) % 5 = (D : Int) := by rw [HD.out]; omega
          have hO4 : Own w (wr.alloc (.cells #[.int .u8 (O : Int), .int .i64 A, .int .u64 (V : Int)] 31)) (Three (.slice ad2 l0 cp2) l0 ys g r xs L b ++ [XB wr.heap.size O A V]) := HO.out.addBox _ _
          replace hO4 := Lib.hid hO4
          have hcase : ((D : Int) == 3) = true ∨ (((D : Int) == 3) = false ∧ ((D : Int) == 4) = true) ∨ (((D : Int) == 3) = false ∧ ((D : Int) == 4) = false) := by
            by_cases h3 : (D : Int) = 3
            · exact .inl (by simpa using h3)
            · by_cases h4 : (D : Int) = 4
              · exact .inr (.inl ⟨by simpa using h3, by simpa using h4⟩)
              · exact .inr (.inr ⟨by simpa using h3, by simpa using h4⟩)
          rcases hcase with hc | ⟨hc, hc4⟩ | ⟨hc, hc4⟩
          · have HQ1 := Lib.hid (fun n => GetH 1 g xs L A w ((wr.alloc (.cells #[.int .u8 (O : Int), .int .i64 A, .int .u64 (V : Int)] 31)).drewN n) _ (hO4.out.quiet (grown_drewN _ _ _)) rfl)
            have HQ2 := Lib.hid (fun n => RefGetH 2 r xs L b A w ((wr.alloc (.cells #[.int .u8 (O : Int), .int .i64 A, .int .u64 (V : Int)] 31)).drewN n) _ (hO4.out.quiet (grown_drewN _ _ _)) rfl)
            generalize gotI xs L A = T at HQ1 HQ2
            have x2 : ((T : Int) == (T : Int)) = true := by simp
            go_wp2_with fail
            go_quiet ((first | (go_at_call 12; exact Calls.quiet_of_same (HQ1.out _)) | (go_at_call 13; exact Calls.quiet_of_same (HQ2.out _))))
            clear HQ1 HQ2 d0 d1 d2 x2 hc m1 m2
            generalize hWz : World.drewN _ _ = Wz
            obtain ⟨L9, b9, hO9⟩ : ∃ L9 b9, Hid (Own w Wz (Three (.slice ad2 l0 cp2) l0 ys g r xs L9 b9 ++ [XB wr.heap.size O A V])) := ⟨L, b, Lib.hid (by rw [← hWz]; exact hO4.out.quiet (grown_drewN _ _ _))⟩
            clear hWz hO4 HO
            go_wp2_with fail
            obtain ⟨vi9, adl, cpl, hob9, hrow9, hwl9, _⟩ := Own.refObj hO9.out 2 rfl
            obtain ⟨m9, Hm9⟩ : ∃ m9, Hid (m9 = L9.length) := ⟨_, Lib.hid rfl⟩
            rw [← Hm9.out] at hob9 hrow9
            have hat9 := Lib.hid (row_at hrow9 rfl)
            have hm96 : m9 ≤ 96 := by rw [Hm9.out]; exact hwl9.few
            have hob9' : SR r vi9 adl m9 cpl b9 Wz := hob9
            replace hob9' := Lib.hid hob9'
            clear hrow9 hwl9 hob9
            by_cases hten : (j : Int) % 10 = 0
            · have y1 : ((j : Int) % 10 == 0) = true := by simpa using hten
              have y2 : ((j : Int).tmod 10 == 0) = true := by rw [Int.tmod_eq_emod_of_nonneg j0]; simpa using hten
              have HW := Lib.hid (fun wx (h : Own w wx (Three (.slice ad2 l0 cp2) l0 ys g r xs L9 b9 ++ [XB wr.heap.size O A V])) => WritesG 1 g xs L9 w wx _ h rfl)
              rw [← Hm9.out] at HW
              clear hten
              refine wp_region_held_drew (S := fun w' => SR r vi9 adl m9 cpl b9 w') (by kernel_rfl) (hob9'.out) (fun hS => ?_)
              refine wpAnyH_take (i := 0) (oi := { dst := some 101, op := Op.move (Operand.tmp 11), type := 4, pos := "law.go:56", after := #[], guard := none }) (v := ?vta3r24o0) rfl (by kernel_rfl) (by kernel_rfl) (by kernel_rfl) (fun _ _ _ h => h) (Or.inl ⟨by rfl, ?hta3r24o0⟩) hS ?_
              case hta3r24o0 => (intro wx hx; skip; go_simp; (try with_reducible rfl))
              try simp only [Act.put, List.setIfInBounds_toArray, List.set_cons_zero, List.set_cons_succ]
              refine wpAnyH_take (i := 1) (oi := { dst := some 102, op := Op.unOp UnOp.not 4 (Operand.tmp 101), type := 4, pos := "law.go:56", after := #[{ on := 0, ground := Ground.data }], guard := none }) (v := ?vta3r24o1) rfl (by kernel_rfl) (by kernel_rfl) (by kernel_rfl) (fun _ _ _ h => h) (Or.inl ⟨by rfl, ?hta3r24o1⟩) hS ?_
              case hta3r24o1 => (intro wx hx; skip; go_simp; (try with_reducible rfl))
              try simp only [Act.put, List.setIfInBounds_toArray, List.set_cons_zero, List.set_cons_succ]
              refine wpAnyH_take (i := 2) (oi := { dst := some 103, op := Op.move (Operand.tmp 102), type := 4, pos := "law.go:56", after := #[{ on := 1, ground := Ground.data }], guard := none }) (v := ?vta3r24o2) rfl (by kernel_rfl) (by kernel_rfl) (by kernel_rfl) (fun _ _ _ h => h) (Or.inl ⟨by rfl, ?hta3r24o2⟩) hS ?_
              case hta3r24o2 => (intro wx hx; skip; go_simp; (try with_reducible rfl))
              try simp only [Act.put, List.setIfInBounds_toArray, List.set_cons_zero, List.set_cons_succ]
              refine wpAnyH_take (i := 3) (oi := { dst := some 104, op := Op.move (Operand.tmp 9), type := 3, pos := "law.go:56", after := #[{ on := 2, ground := Ground.guard }], guard := some (2, false) }) (v := ?vta3r24o3) rfl (by kernel_rfl) (by kernel_rfl) (by kernel_rfl) (fun _ _ _ h => h) (Or.inl ⟨by rfl, ?hta3r24o3⟩) hS ?_
              case hta3r24o3 => (intro wx hx; skip; go_simp; (try with_reducible rfl))
              try simp only [Act.put, List.setIfInBounds_toArray, List.set_cons_zero, List.set_cons_succ]
              refine wpAnyH_take (i := 4) (oi := { dst := some 105, op := Op.binOp BinOp.rem 3 (Operand.tmp 104) (Operand.const (Value.int IntKind.i64 10)) 3, type := 3, pos := "law.go:56", after := #[{ on := 3, ground := Ground.data }, { on := 2, ground := Ground.guard }], guard := some (2, false) }) (v := ?vta3r24o4) rfl (by kernel_rfl) (by kernel_rfl) (by kernel_rfl) (fun _ _ _ h => h) (Or.inl ⟨by rfl, ?hta3r24o4⟩) hS ?_
              case hta3r24o4 => (intro wx hx; skip; go_simp; (try with_reducible rfl))
              try simp only [Act.put, List.setIfInBounds_toArray, List.set_cons_zero, List.set_cons_succ]
              refine wpAnyH_take (i := 5) (oi := { dst := some 106, op := Op.binOp BinOp.eql 3 (Operand.tmp 105) (Operand.const (Value.int IntKind.i64 0)) 3, type := 4, pos := "law.go:56", after := #[{ on := 4, ground := Ground.data }, { on := 2, ground := Ground.guard }], guard := some (2, false) }) (v := ?vta3r24o5) rfl (by kernel_rfl) (by kernel_rfl) (by kernel_rfl) (fun _ _ _ h => h) (Or.inl ⟨by rfl, ?hta3r24o5⟩) hS ?_
              case hta3r24o5 => (intro wx hx; skip; go_simp; (try with_reducible rfl))
              try simp only [Act.put, List.setIfInBounds_toArray, List.set_cons_zero, List.set_cons_succ]
              refine wpAnyH_take (i := 6) (oi := { dst := some 107, op := Op.move (Operand.tmp 106), type := 4, pos := "law.go:56", after := #[{ on := 5, ground := Ground.data }, { on := 2, ground := Ground.chain }, { on := 2, ground := Ground.guard }], guard := some (2, false) }) (v := ?vta3r24o6) rfl (by kernel_rfl) (by kernel_rfl) (by kernel_rfl) (fun _ _ _ h => h) (Or.inl ⟨by rfl, ?hta3r24o6⟩) hS ?_
              case hta3r24o6 => (intro wx hx; skip; go_simp; (try with_reducible rfl))
              try simp only [Act.put, List.setIfInBounds_toArray, List.set_cons_zero, List.set_cons_succ]
              refine wpAnyH_take (i := 7) (oi := { dst := some 108, op := Op.move (Operand.tmp 6), type := 25, pos := "law.go:56", after := #[{ on := 6, ground := Ground.guard }], guard := some (6, true) }) (v := ?vta3r24o7) rfl (by kernel_rfl) (by kernel_rfl) (by kernel_rfl) (fun _ _ _ h => h) (Or.inl ⟨by rfl, ?hta3r24o7⟩) hS ?_
              case hta3r24o7 => (intro wx hx; skip; go_simp; (try with_reducible rfl))
              try simp only [Act.put, List.setIfInBounds_toArray, List.set_cons_zero, List.set_cons_succ]
              refine wpAnyH_take (i := 9) (oi := { dst := some 110, op := Op.move (Operand.tmp 7), type := 27, pos := "law.go:56", after := #[{ on := 6, ground := Ground.guard }], guard := some (6, true) }) (v := ?vta3r24o9) rfl (by kernel_rfl) (by kernel_rfl) (by kernel_rfl) (fun _ _ _ h => h) (Or.inl ⟨by rfl, ?hta3r24o9⟩) hS ?_
              case hta3r24o9 => (intro wx hx; skip; go_simp; (try with_reducible rfl))
              try simp only [Act.put, List.setIfInBounds_toArray, List.set_cons_zero, List.set_cons_succ]
              refine wpAnyH_take (i := 10) (oi := { dst := some 111, op := Op.nilCheck (Operand.tmp 110), type := 0, pos := "law.go:56", after := #[{ on := 9, ground := Ground.data }, { on := 6, ground := Ground.guard }], guard := some (6, true) }) (v := ?vta3r24o10) rfl (by kernel_rfl) (by kernel_rfl) (by kernel_rfl) (fun _ _ _ h => h) (Or.inl ⟨by rfl, ?hta3r24o10⟩) hS ?_
              case hta3r24o10 => (intro wx hx; skip; go_simp; (try with_reducible rfl))
              try simp only [Act.put, List.setIfInBounds_toArray, List.set_cons_zero, List.set_cons_succ]
              refine wpAnyH_take (i := 11) (oi := { dst := some 112, op := Op.fieldAddr 35 (Operand.tmp 111) 1, type := 0, pos := "law.go:56", after := #[{ on := 10, ground := Ground.data }, { on := 6, ground := Ground.guard }], guard := some (6, true) }) (v := ?vta3r24o11) rfl (by kernel_rfl) (by kernel_rfl) (by kernel_rfl) (fun _ _ _ h => h) (Or.inl ⟨by rfl, ?hta3r24o11⟩) hS ?_
              case hta3r24o11 => (intro wx hx; skip; go_simp; (try with_reducible rfl))
              try simp only [Act.put, List.setIfInBounds_toArray, List.set_cons_zero, List.set_cons_succ]
              refine wpAnyH_take (i := 12) (oi := { dst := some 113, op := Op.load 33 (Operand.tmp 112), type := 33, pos := "law.go:56", after := #[{ on := 11, ground := Ground.data }, { on := 6, ground := Ground.guard }], guard := some (6, true) }) (v := ?vta3r24o12) rfl (by kernel_rfl) (by kernel_rfl) (by kernel_rfl) (fun _ _ _ h => h) (Or.inl ⟨by rfl, ?hta3r24o12⟩) hS ?_
              case hta3r24o12 => (intro wx hx; have x0 := SR.fact hx; go_simp; (try with_reducible rfl))
              try simp only [Act.put, List.setIfInBounds_toArray, List.set_cons_zero, List.set_cons_succ]
              refine wpAnyH_ready (rs := [8]) (by kernel_rfl) (by simp) ?_
              refine AllReadyH.cons (o := { dst := some 109, op := Op.call { callee := Callee.value (Operand.func 18), args := #[Operand.tmp 108], argTypes := #[25] }, type := 33, pos := "law.go:56", after := #[{ on := 7, ground := Ground.data }, { on := 6, ground := Ground.chain }, { on := 6, ground := Ground.guard }], guard := some (6, true) }) rfl (fun K hK => ?_) AllReadyH.nil
              go_simp
              refine (HW.out _ (hO9.out.quiet (grown_drew (World.grownBy.refl _ _)))).mono ?_
              rintro e wW ⟨ad7, cp7, rfl, hW7, hgw⟩
              have hS1 := SR.keep hS hgw
              obtain ⟨p7, _⟩ := Own.pairs hW7 4 rfl
              have p9 := hat9.out.grown (grown_trans (grown_drew (World.grownBy.refl _ none)) hgw) (by simp)
              replace hW7 := Lib.hid hW7
              have HS7 := Lib.hid (SameW_any ad7 adl m9 m9 cp7 cpl L9 L9 wW p7 p9 Hm9.out.symm Hm9.out.symm (by omega))
              rw [decide_eq_true rfl] at HS7
              clear p7 p9 hgw
              refine hK.out _ _ ?hsta3r24o8 (fun hS => ?_)
              case hsta3r24o8 => (exact hS1)
              clear hK K
              try simp only [Act.put, List.setIfInBounds_toArray, List.set_cons_zero, List.set_cons_succ]
              refine wpAnyH_ready (rs := [13]) (by kernel_rfl) (by simp) ?_
              refine AllReadyH.cons (o := { dst := some 114, op := Op.call { callee := Callee.value (Operand.func 17), args := #[Operand.tmp 109, Operand.tmp 113], argTypes := #[33, 33] }, type := 4, pos := "law.go:56", after := #[{ on := 8, ground := Ground.data }, { on := 12, ground := Ground.data }, { on := 8, ground := Ground.chain }, { on := 6, ground := Ground.guard }], guard := some (6, true) }) rfl (fun K hK => ?_) AllReadyH.nil
              go_simp
              refine HS7.out.mono ?_
              rintro e wS ⟨rfl, hgs⟩
              have hS1 := SR.keep hS hgs
              refine hK.out _ _ ?hsta3r24o13 (fun hS => ?_)
              case hsta3r24o13 => (exact hS1)
              clear hK K
              try simp only [Act.put, List.setIfInBounds_toArray, List.set_cons_zero, List.set_cons_succ]
              refine wpAnyH_take (i := 14) (oi := { dst := some 115, op := Op.unOp UnOp.not 4 (Operand.tmp 114), type := 4, pos := "law.go:56", after := #[{ on := 13, ground := Ground.data }, { on := 6, ground := Ground.guard }], guard := some (6, true) }) (v := ?vta3r24o14) rfl (by kernel_rfl) (by kernel_rfl) (by kernel_rfl) (fun _ _ _ h => h) (Or.inl ⟨by rfl, ?hta3r24o14⟩) hS ?_
              case hta3r24o14 => (intro wx hx; skip; go_simp; (try with_reducible rfl))
              try simp only [Act.put, List.setIfInBounds_toArray, List.set_cons_zero, List.set_cons_succ]
              refine wpAnyH_take (i := 15) (oi := { dst := some 116, op := Op.pick (Operand.tmp 107) (Operand.tmp 115) (Operand.const (Value.bool false)), type := 4, pos := "law.go:56", after := #[{ on := 6, ground := Ground.data }, { on := 14, ground := Ground.data }, { on := 2, ground := Ground.guard }], guard := some (2, false) }) (v := ?vta3r24o15) rfl (by kernel_rfl) (by kernel_rfl) (by kernel_rfl) (fun _ _ _ h => h) (Or.inl ⟨by rfl, ?hta3r24o15⟩) hS ?_
              case hta3r24o15 => (intro wx hx; skip; go_simp; (try with_reducible rfl))
              try simp only [Act.put, List.setIfInBounds_toArray, List.set_cons_zero, List.set_cons_succ]
              refine wpAnyH_take (i := 16) (oi := { dst := some 117, op := Op.pick (Operand.tmp 103) (Operand.const (Value.bool true)) (Operand.tmp 116), type := 4, pos := "law.go:56", after := #[{ on := 2, ground := Ground.data }, { on := 15, ground := Ground.data }], guard := none }) (v := ?vta3r24o16) rfl (by kernel_rfl) (by kernel_rfl) (by kernel_rfl) (fun _ _ _ h => h) (Or.inl ⟨by rfl, ?hta3r24o16⟩) hS ?_
              case hta3r24o16 => (intro wx hx; skip; go_simp; (try with_reducible rfl))
              try simp only [Act.put, List.setIfInBounds_toArray, List.set_cons_zero, List.set_cons_succ]
              refine wpAnyH_done (by kernel_rfl) ?_ _
              have hO10 : Own w wS (Three (.slice ad2 l0 cp2) l0 ys g r xs L9 b9) := ((Own.less (Own.less hW7.out))).quiet hgs
              replace hO10 := Lib.hid hO10
              clear hgs HS7 HW hW7 y1 y2
              go_wp2
              go_roundw
              case rel => exact ⟨j + 1, by omega, by go_num, L9, b9, hO10⟩
              case measure => simp [intOf]; omega
            · have y1 : ((j : Int) % 10 == 0) = false := by simpa using hten
              have y2 : ((j : Int).tmod 10 == 0) = false := by rw [Int.tmod_eq_emod_of_nonneg j0]; simpa using hten
              clear hten
              go_quiet (fail)
              generalize hWy : World.drewN _ _ = Wy
              have hO10 : Hid (Own w Wy (Three (.slice ad2 l0 cp2) l0 ys g r xs L9 b9)) := Lib.hid (by rw [← hWy]; exact (Own.less hO9.out).quiet (grown_drewN _ _ _))
              clear hWy y1 y2
              go_wp2
              go_roundw
              case rel => exact ⟨j + 1, by omega, by go_num, L9, b9, hO10⟩
              case measure => simp [intOf]; omega
          · have HQ1 := Lib.hid (DropH 1 g xs L w (wr.alloc (.cells #[.int .u8 (O : Int), .int .i64 A, .int .u64 (V : Int)] 31)) _ _ hO4.out rfl rfl)
            go_wp2_with fail
            refine HQ1.out.mono ?_
            rintro e u9 ⟨rfl, hO5⟩
            clear HQ1
            have hO5 : Own w u9 (Three (.slice ad2 l0 cp2) l0 ys g r xs [] b |>.set 2 (refP r xs L b) |>.append [XB wr.heap.size O A V]) := hO5
            obtain ⟨vi, adl, cpl, hob, _⟩ := Own.refObj hO5 2 rfl
            have e1 := row_cell hob 1 _ rfl
            have e2 := row_free hob 1
            have hO6 := Lib.hid (Own.refNil hO5 2 rfl)
            clear hO5 hob d0 d1 d2 m1 m2 hO4 HO
            go_wp2_with fail
            clear hc hc4 e1 e2
            generalize hWz : World.setCell _ _ _ = Wz
            obtain ⟨L9, b9, hO9⟩ : ∃ L9 b9, Hid (Own w Wz (Three (.slice ad2 l0 cp2) l0 ys g r xs L9 b9 ++ [XB wr.heap.size O A V])) := ⟨[], b, Lib.hid (by rw [← hWz]; exact hO6.out)⟩
            clear hWz hO6
            obtain ⟨vi9, adl, cpl, hob9, hrow9, hwl9, _⟩ := Own.refObj hO9.out 2 rfl
            obtain ⟨m9, Hm9⟩ : ∃ m9, Hid (m9 = L9.length) := ⟨_, Lib.hid rfl⟩
            rw [← Hm9.out] at hob9 hrow9
            have hat9 := Lib.hid (row_at hrow9 rfl)
            have hm96 : m9 ≤ 96 := by rw [Hm9.out]; exact hwl9.few
            have hob9' : SR r vi9 adl m9 cpl b9 Wz := hob9
            replace hob9' := Lib.hid hob9'
            clear hrow9 hwl9 hob9
            by_cases hten : (j : Int) % 10 = 0
            · have y1 : ((j : Int) % 10 == 0) = true := by simpa using hten
              have y2 : ((j : Int).tmod 10 == 0) = true := by rw [Int.tmod_eq_emod_of_nonneg j0]; simpa using hten
              have HW := Lib.hid (fun wx (h : Own w wx (Three (.slice ad2 l0 cp2) l0 ys g r xs L9 b9 ++ [XB wr.heap.size O A V])) => WritesG 1 g xs L9 w wx _ h rfl)
              rw [← Hm9.out] at HW
              clear hten
              refine wp_region_held_drew (S := fun w' => SR r vi9 adl m9 cpl b9 w') (by kernel_rfl) (hob9'.out) (fun hS => ?_)
              refine wpAnyH_take (i := 0) (oi := { dst := some 101, op := Op.move (Operand.tmp 11), type := 4, pos := "law.go:56", after := #[], guard := none }) (v := ?vtb3r24o0) rfl (by kernel_rfl) (by kernel_rfl) (by kernel_rfl) (fun _ _ _ h => h) (Or.inl ⟨by rfl, ?htb3r24o0⟩) hS ?_
              case htb3r24o0 => (intro wx hx; skip; go_simp; (try with_reducible rfl))
              try simp only [Act.put, List.setIfInBounds_toArray, List.set_cons_zero, List.set_cons_succ]
              refine wpAnyH_take (i := 1) (oi := { dst := some 102, op := Op.unOp UnOp.not 4 (Operand.tmp 101), type := 4, pos := "law.go:56", after := #[{ on := 0, ground := Ground.data }], guard := none }) (v := ?vtb3r24o1) rfl (by kernel_rfl) (by kernel_rfl) (by kernel_rfl) (fun _ _ _ h => h) (Or.inl ⟨by rfl, ?htb3r24o1⟩) hS ?_
              case htb3r24o1 => (intro wx hx; skip; go_simp; (try with_reducible rfl))
              try simp only [Act.put, List.setIfInBounds_toArray, List.set_cons_zero, List.set_cons_succ]
              refine wpAnyH_take (i := 2) (oi := { dst := some 103, op := Op.move (Operand.tmp 102), type := 4, pos := "law.go:56", after := #[{ on := 1, ground := Ground.data }], guard := none }) (v := ?vtb3r24o2) rfl (by kernel_rfl) (by kernel_rfl) (by kernel_rfl) (fun _ _ _ h => h) (Or.inl ⟨by rfl, ?htb3r24o2⟩) hS ?_
              case htb3r24o2 => (intro wx hx; skip; go_simp; (try with_reducible rfl))
              try simp only [Act.put, List.setIfInBounds_toArray, List.set_cons_zero, List.set_cons_succ]
              refine wpAnyH_take (i := 3) (oi := { dst := some 104, op := Op.move (Operand.tmp 9), type := 3, pos := "law.go:56", after := #[{ on := 2, ground := Ground.guard }], guard := some (2, false) }) (v := ?vtb3r24o3) rfl (by kernel_rfl) (by kernel_rfl) (by kernel_rfl) (fun _ _ _ h => h) (Or.inl ⟨by rfl, ?htb3r24o3⟩) hS ?_
              case htb3r24o3 => (intro wx hx; skip; go_simp; (try with_reducible rfl))
              try simp only [Act.put, List.setIfInBounds_toArray, List.set_cons_zero, List.set_cons_succ]
              refine wpAnyH_take (i := 4) (oi := { dst := some 105, op := Op.binOp BinOp.rem 3 (Operand.tmp 104) (Operand.const (Value.int IntKind.i64 10)) 3, type := 3, pos := "law.go:56", after := #[{ on := 3, ground := Ground.data }, { on := 2, ground := Ground.guard }], guard := some (2, false) }) (v := ?vtb3r24o4) rfl (by kernel_rfl) (by kernel_rfl) (by kernel_rfl) (fun _ _ _ h => h) (Or.inl ⟨by rfl, ?htb3r24o4⟩) hS ?_
              case htb3r24o4 => (intro wx hx; skip; go_simp; (try with_reducible rfl))
              try simp only [Act.put, List.setIfInBounds_toArray, List.set_cons_zero, List.set_cons_succ]
              refine wpAnyH_take (i := 5) (oi := { dst := some 106, op := Op.binOp BinOp.eql 3 (Operand.tmp 105) (Operand.const (Value.int IntKind.i64 0)) 3, type := 4, pos := "law.go:56", after := #[{ on := 4, ground := Ground.data }, { on := 2, ground := Ground.guard }], guard := some (2, false) }) (v := ?vtb3r24o5) rfl (by kernel_rfl) (by kernel_rfl) (by kernel_rfl) (fun _ _ _ h => h) (Or.inl ⟨by rfl, ?htb3r24o5⟩) hS ?_
              case htb3r24o5 => (intro wx hx; skip; go_simp; (try with_reducible rfl))
              try simp only [Act.put, List.setIfInBounds_toArray, List.set_cons_zero, List.set_cons_succ]
              refine wpAnyH_take (i := 6) (oi := { dst := some 107, op := Op.move (Operand.tmp 106), type := 4, pos := "law.go:56", after := #[{ on := 5, ground := Ground.data }, { on := 2, ground := Ground.chain }, { on := 2, ground := Ground.guard }], guard := some (2, false) }) (v := ?vtb3r24o6) rfl (by kernel_rfl) (by kernel_rfl) (by kernel_rfl) (fun _ _ _ h => h) (Or.inl ⟨by rfl, ?htb3r24o6⟩) hS ?_
              case htb3r24o6 => (intro wx hx; skip; go_simp; (try with_reducible rfl))
              try simp only [Act.put, List.setIfInBounds_toArray, List.set_cons_zero, List.set_cons_succ]
              refine wpAnyH_take (i := 7) (oi := { dst := some 108, op := Op.move (Operand.tmp 6), type := 25, pos := "law.go:56", after := #[{ on := 6, ground := Ground.guard }], guard := some (6, true) }) (v := ?vtb3r24o7) rfl (by kernel_rfl) (by kernel_rfl) (by kernel_rfl) (fun _ _ _ h => h) (Or.inl ⟨by rfl, ?htb3r24o7⟩) hS ?_
              case htb3r24o7 => (intro wx hx; skip; go_simp; (try with_reducible rfl))
              try simp only [Act.put, List.setIfInBounds_toArray, List.set_cons_zero, List.set_cons_succ]
              refine wpAnyH_take (i := 9) (oi := { dst := some 110, op := Op.move (Operand.tmp 7), type := 27, pos := "law.go:56", after := #[{ on := 6, ground := Ground.guard }], guard := some (6, true) }) (v := ?vtb3r24o9) rfl (by kernel_rfl) (by kernel_rfl) (by kernel_rfl) (fun _ _ _ h => h) (Or.inl ⟨by rfl, ?htb3r24o9⟩) hS ?_
              case htb3r24o9 => (intro wx hx; skip; go_simp; (try with_reducible rfl))
              try simp only [Act.put, List.setIfInBounds_toArray, List.set_cons_zero, List.set_cons_succ]
              refine wpAnyH_take (i := 10) (oi := { dst := some 111, op := Op.nilCheck (Operand.tmp 110), type := 0, pos := "law.go:56", after := #[{ on := 9, ground := Ground.data }, { on := 6, ground := Ground.guard }], guard := some (6, true) }) (v := ?vtb3r24o10) rfl (by kernel_rfl) (by kernel_rfl) (by kernel_rfl) (fun _ _ _ h => h) (Or.inl ⟨by rfl, ?htb3r24o10⟩) hS ?_
              case htb3r24o10 => (intro wx hx; skip; go_simp; (try with_reducible rfl))
              try simp only [Act.put, List.setIfInBounds_toArray, List.set_cons_zero, List.set_cons_succ]
              refine wpAnyH_take (i := 11) (oi := { dst := some 112, op := Op.fieldAddr 35 (Operand.tmp 111) 1, type := 0, pos := "law.go:56", after := #[{ on := 10, ground := Ground.data }, { on := 6, ground := Ground.guard }], guard := some (6, true) }) (v := ?vtb3r24o11) rfl (by kernel_rfl) (by kernel_rfl) (by kernel_rfl) (fun _ _ _ h => h) (Or.inl ⟨by rfl, ?htb3r24o11⟩) hS ?_
              case htb3r24o11 => (intro wx hx; skip; go_simp; (try with_reducible rfl))
              try simp only [Act.put, List.setIfInBounds_toArray, List.set_cons_zero, List.set_cons_succ]
              refine wpAnyH_take (i := 12) (oi := { dst := some 113, op := Op.load 33 (Operand.tmp 112), type := 33, pos := "law.go:56", after := #[{ on := 11, ground := Ground.data }, { on := 6, ground := Ground.guard }], guard := some (6, true) }) (v := ?vtb3r24o12) rfl (by kernel_rfl) (by kernel_rfl) (by kernel_rfl) (fun _ _ _ h => h) (Or.inl ⟨by rfl, ?htb3r24o12⟩) hS ?_
              case htb3r24o12 => (intro wx hx; have x0 := SR.fact hx; go_simp; (try with_reducible rfl))
              try simp only [Act.put, List.setIfInBounds_toArray, List.set_cons_zero, List.set_cons_succ]
              refine wpAnyH_ready (rs := [8]) (by kernel_rfl) (by simp) ?_
              refine AllReadyH.cons (o := { dst := some 109, op := Op.call { callee := Callee.value (Operand.func 18), args := #[Operand.tmp 108], argTypes := #[25] }, type := 33, pos := "law.go:56", after := #[{ on := 7, ground := Ground.data }, { on := 6, ground := Ground.chain }, { on := 6, ground := Ground.guard }], guard := some (6, true) }) rfl (fun K hK => ?_) AllReadyH.nil
              go_simp
              refine (HW.out _ (hO9.out.quiet (grown_drew (World.grownBy.refl _ _)))).mono ?_
              rintro e wW ⟨ad7, cp7, rfl, hW7, hgw⟩
              have hS1 := SR.keep hS hgw
              obtain ⟨p7, _⟩ := Own.pairs hW7 4 rfl
              have p9 := hat9.out.grown (grown_trans (grown_drew (World.grownBy.refl _ none)) hgw) (by simp)
              replace hW7 := Lib.hid hW7
              have HS7 := Lib.hid (SameW_any ad7 adl m9 m9 cp7 cpl L9 L9 wW p7 p9 Hm9.out.symm Hm9.out.symm (by omega))
              rw [decide_eq_true rfl] at HS7
              clear p7 p9 hgw
              refine hK.out _ _ ?hstb3r24o8 (fun hS => ?_)
              case hstb3r24o8 => (exact hS1)
              clear hK K
              try simp only [Act.put, List.setIfInBounds_toArray, List.set_cons_zero, List.set_cons_succ]
              refine wpAnyH_ready (rs := [13]) (by kernel_rfl) (by simp) ?_
              refine AllReadyH.cons (o := { dst := some 114, op := Op.call { callee := Callee.value (Operand.func 17), args := #[Operand.tmp 109, Operand.tmp 113], argTypes := #[33, 33] }, type := 4, pos := "law.go:56", after := #[{ on := 8, ground := Ground.data }, { on := 12, ground := Ground.data }, { on := 8, ground := Ground.chain }, { on := 6, ground := Ground.guard }], guard := some (6, true) }) rfl (fun K hK => ?_) AllReadyH.nil
              go_simp
              refine HS7.out.mono ?_
              rintro e wS ⟨rfl, hgs⟩
              have hS1 := SR.keep hS hgs
              refine hK.out _ _ ?hstb3r24o13 (fun hS => ?_)
              case hstb3r24o13 => (exact hS1)
              clear hK K
              try simp only [Act.put, List.setIfInBounds_toArray, List.set_cons_zero, List.set_cons_succ]
              refine wpAnyH_take (i := 14) (oi := { dst := some 115, op := Op.unOp UnOp.not 4 (Operand.tmp 114), type := 4, pos := "law.go:56", after := #[{ on := 13, ground := Ground.data }, { on := 6, ground := Ground.guard }], guard := some (6, true) }) (v := ?vtb3r24o14) rfl (by kernel_rfl) (by kernel_rfl) (by kernel_rfl) (fun _ _ _ h => h) (Or.inl ⟨by rfl, ?htb3r24o14⟩) hS ?_
              case htb3r24o14 => (intro wx hx; skip; go_simp; (try with_reducible rfl))
              try simp only [Act.put, List.setIfInBounds_toArray, List.set_cons_zero, List.set_cons_succ]
              refine wpAnyH_take (i := 15) (oi := { dst := some 116, op := Op.pick (Operand.tmp 107) (Operand.tmp 115) (Operand.const (Value.bool false)), type := 4, pos := "law.go:56", after := #[{ on := 6, ground := Ground.data }, { on := 14, ground := Ground.data }, { on := 2, ground := Ground.guard }], guard := some (2, false) }) (v := ?vtb3r24o15) rfl (by kernel_rfl) (by kernel_rfl) (by kernel_rfl) (fun _ _ _ h => h) (Or.inl ⟨by rfl, ?htb3r24o15⟩) hS ?_
              case htb3r24o15 => (intro wx hx; skip; go_simp; (try with_reducible rfl))
              try simp only [Act.put, List.setIfInBounds_toArray, List.set_cons_zero, List.set_cons_succ]
              refine wpAnyH_take (i := 16) (oi := { dst := some 117, op := Op.pick (Operand.tmp 103) (Operand.const (Value.bool true)) (Operand.tmp 116), type := 4, pos := "law.go:56", after := #[{ on := 2, ground := Ground.data }, { on := 15, ground := Ground.data }], guard := none }) (v := ?vtb3r24o16) rfl (by kernel_rfl) (by kernel_rfl) (by kernel_rfl) (fun _ _ _ h => h) (Or.inl ⟨by rfl, ?htb3r24o16⟩) hS ?_
              case htb3r24o16 => (intro wx hx; skip; go_simp; (try with_reducible rfl))
              try simp only [Act.put, List.setIfInBounds_toArray, List.set_cons_zero, List.set_cons_succ]
              refine wpAnyH_done (by kernel_rfl) ?_ _
              have hO10 : Own w wS (Three (.slice ad2 l0 cp2) l0 ys g r xs L9 b9) := ((Own.less (Own.less hW7.out))).quiet hgs
              replace hO10 := Lib.hid hO10
              clear hgs HS7 HW hW7 y1 y2
              go_wp2
              go_roundw
              case rel => exact ⟨j + 1, by omega, by go_num, L9, b9, hO10⟩
              case measure => simp [intOf]; omega
            · have y1 : ((j : Int) % 10 == 0) = false := by simpa using hten
              have y2 : ((j : Int).tmod 10 == 0) = false := by rw [Int.tmod_eq_emod_of_nonneg j0]; simpa using hten
              clear hten
              go_quiet (fail)
              generalize hWy : World.drewN _ _ = Wy
              have hO10 : Hid (Own w Wy (Three (.slice ad2 l0 cp2) l0 ys g r xs L9 b9)) := Lib.hid (by rw [← hWy]; exact (Own.less hO9.out).quiet (grown_drewN _ _ _))
              clear hWy y1 y2
              go_wp2
              go_roundw
              case rel => exact ⟨j + 1, by omega, by go_num, L9, b9, hO10⟩
              case measure => simp [intOf]; omega
          · obtain ⟨E, HE⟩ : ∃ E, Hid (E = putEI xs L A) := ⟨_, Lib.hid rfl⟩
            have HP := Lib.hid (fun wx (h : Own w wx (Three (.slice ad2 l0 cp2) l0 ys g r xs L b ++ [XB wr.heap.size O A V])) => PutH 1 g xs L A V _ w wx _ (Three (.slice ad2 l0 cp2) l0 ys g r xs (putI xs L A V) b |>.set 2 (refP r xs L b) |>.append [XB wr.heap.size O A V]) h rfl HV.out rfl rfl)
            have HR := Lib.hid (fun wx (h : Own w wx (Three (.slice ad2 l0 cp2) l0 ys g r xs (putI xs L A V) b |>.set 2 (refP r xs L b) |>.append [XB wr.heap.size O A V])) => RefPutH 2 r xs L b A V _ w wx _ (Three (.slice ad2 l0 cp2) l0 ys g r xs (putI xs L A V) (putM xs L A b) ++ [XB wr.heap.size O A V]) h rfl HV.out rfl rfl)
            rw [← HE.out] at HP HR
            obtain ⟨M, HM⟩ : ∃ M, Hid (M = putI xs L A V) := ⟨_, Lib.hid rfl⟩
            obtain ⟨b', Hb'⟩ : ∃ b', Hid (b' = putM xs L A b) := ⟨_, Lib.hid rfl⟩
            rw [← HM.out] at HP HR
            rw [← Hb'.out] at HR
            have HG1 := Lib.hid (fun wx (h : Own w wx (Three (.slice ad2 l0 cp2) l0 ys g r xs M b' ++ [XB wr.heap.size O A V])) => GetH 1 g xs M A w wx _ h rfl)
            have HG2 := Lib.hid (fun wx (h : Own w wx (Three (.slice ad2 l0 cp2) l0 ys g r xs M b' ++ [XB wr.heap.size O A V])) => RefGetH 2 r xs M b' A w wx _ h rfl)
            generalize gotI xs M A = T at HG1 HG2
            have x1 : ((E : Int) == (E : Int)) = true := by simp
            have x2 : ((T : Int) == (T : Int)) = true := by simp
            go_wp2_with fail
            clear d0 d1 d2 m1 m2 hc hc4 HE HM Hb' HO
            refine wp_region_held_drew (S := fun w' => SX wr.heap.size O A V w') (by kernel_rfl) (Own.box hO4.out 3 rfl) (fun hS => ?_)
            refine wpAnyH_take (i := 0) (oi := { dst := some 59, op := Op.move (Operand.tmp 6), type := 25, pos := "law.go:54", after := #[], guard := none }) (v := ?vr3r18o0) rfl (by kernel_rfl) (by kernel_rfl) (by kernel_rfl) (fun _ _ _ h => h) (Or.inl ⟨by rfl, ?hr3r18o0⟩) hS ?_
            case hr3r18o0 => (intro wx hx; skip; go_simp; (try with_reducible rfl))
            try simp only [Act.put, List.setIfInBounds_toArray, List.set_cons_zero, List.set_cons_succ]
            refine wpAnyH_take (i := 1) (oi := { dst := some 60, op := Op.fieldAddr 31 (Operand.tmp 10) 1, type := 0, pos := "law.go:54", after := #[], guard := none }) (v := ?vr3r18o1) rfl (by kernel_rfl) (by kernel_rfl) (by kernel_rfl) (fun _ _ _ h => h) (Or.inl ⟨by rfl, ?hr3r18o1⟩) hS ?_
            case hr3r18o1 => (intro wx hx; skip; go_simp; (try with_reducible rfl))
            try simp only [Act.put, List.setIfInBounds_toArray, List.set_cons_zero, List.set_cons_succ]
            refine wpAnyH_take (i := 2) (oi := { dst := some 61, op := Op.load 3 (Operand.tmp 60), type := 3, pos := "law.go:54", after := #[{ on := 1, ground := Ground.data }], guard := none }) (v := ?vr3r18o2) rfl (by kernel_rfl) (by kernel_rfl) (by kernel_rfl) (fun _ _ _ h => h) (Or.inl ⟨by rfl, ?hr3r18o2⟩) hS ?_
            case hr3r18o2 => (intro wx hx; obtain ⟨x0, x1, x2⟩ := SX.facts hx; go_simp; (try with_reducible rfl))
            try simp only [Act.put, List.setIfInBounds_toArray, List.set_cons_zero, List.set_cons_succ]
            refine wpAnyH_take (i := 3) (oi := { dst := some 62, op := Op.fieldAddr 31 (Operand.tmp 10) 2, type := 0, pos := "law.go:54", after := #[], guard := none }) (v := ?vr3r18o3) rfl (by kernel_rfl) (by kernel_rfl) (by kernel_rfl) (fun _ _ _ h => h) (Or.inl ⟨by rfl, ?hr3r18o3⟩) hS ?_
            case hr3r18o3 => (intro wx hx; skip; go_simp; (try with_reducible rfl))
            try simp only [Act.put, List.setIfInBounds_toArray, List.set_cons_zero, List.set_cons_succ]
            refine wpAnyH_take (i := 4) (oi := { dst := some 63, op := Op.load 29 (Operand.tmp 62), type := 29, pos := "law.go:54", after := #[{ on := 3, ground := Ground.data }], guard := none }) (v := ?vr3r18o4) rfl (by kernel_rfl) (by kernel_rfl) (by kernel_rfl) (fun _ _ _ h => h) (Or.inl ⟨by rfl, ?hr3r18o4⟩) hS ?_
            case hr3r18o4 => (intro wx hx; obtain ⟨x0, x1, x2⟩ := SX.facts hx; go_simp; (try with_reducible rfl))
            try simp only [Act.put, List.setIfInBounds_toArray, List.set_cons_zero, List.set_cons_succ]
            refine wpAnyH_take (i := 6) (oi := { dst := some 65, op := Op.move (Operand.tmp 7), type := 27, pos := "law.go:54", after := #[], guard := none }) (v := ?vr3r18o6) rfl (by kernel_rfl) (by kernel_rfl) (by kernel_rfl) (fun _ _ _ h => h) (Or.inl ⟨by rfl, ?hr3r18o6⟩) hS ?_
            case hr3r18o6 => (intro wx hx; skip; go_simp; (try with_reducible rfl))
            try simp only [Act.put, List.setIfInBounds_toArray, List.set_cons_zero, List.set_cons_succ]
            refine wpAnyH_take (i := 7) (oi := { dst := some 66, op := Op.fieldAddr 31 (Operand.tmp 10) 1, type := 0, pos := "law.go:54", after := #[], guard := none }) (v := ?vr3r18o7) rfl (by kernel_rfl) (by kernel_rfl) (by kernel_rfl) (fun _ _ _ h => h) (Or.inl ⟨by rfl, ?hr3r18o7⟩) hS ?_
            case hr3r18o7 => (intro wx hx; skip; go_simp; (try with_reducible rfl))
            try simp only [Act.put, List.setIfInBounds_toArray, List.set_cons_zero, List.set_cons_succ]
            refine wpAnyH_take (i := 8) (oi := { dst := some 67, op := Op.load 3 (Operand.tmp 66), type := 3, pos := "law.go:54", after := #[{ on := 7, ground := Ground.data }], guard := none }) (v := ?vr3r18o8) rfl (by kernel_rfl) (by kernel_rfl) (by kernel_rfl) (fun _ _ _ h => h) (Or.inl ⟨by rfl, ?hr3r18o8⟩) hS ?_
            case hr3r18o8 => (intro wx hx; obtain ⟨x0, x1, x2⟩ := SX.facts hx; go_simp; (try with_reducible rfl))
            try simp only [Act.put, List.setIfInBounds_toArray, List.set_cons_zero, List.set_cons_succ]
            refine wpAnyH_take (i := 9) (oi := { dst := some 68, op := Op.fieldAddr 31 (Operand.tmp 10) 2, type := 0, pos := "law.go:54", after := #[], guard := none }) (v := ?vr3r18o9) rfl (by kernel_rfl) (by kernel_rfl) (by kernel_rfl) (fun _ _ _ h => h) (Or.inl ⟨by rfl, ?hr3r18o9⟩) hS ?_
            case hr3r18o9 => (intro wx hx; skip; go_simp; (try with_reducible rfl))
            try simp only [Act.put, List.setIfInBounds_toArray, List.set_cons_zero, List.set_cons_succ]
            refine wpAnyH_take (i := 10) (oi := { dst := some 69, op := Op.load 29 (Operand.tmp 68), type := 29, pos := "law.go:54", after := #[{ on := 9, ground := Ground.data }], guard := none }) (v := ?vr3r18o10) rfl (by kernel_rfl) (by kernel_rfl) (by kernel_rfl) (fun _ _ _ h => h) (Or.inl ⟨by rfl, ?hr3r18o10⟩) hS ?_
            case hr3r18o10 => (intro wx hx; obtain ⟨x0, x1, x2⟩ := SX.facts hx; go_simp; (try with_reducible rfl))
            try simp only [Act.put, List.setIfInBounds_toArray, List.set_cons_zero, List.set_cons_succ]
            refine wpAnyH_ready (rs := [5]) (by kernel_rfl) (by simp) ?_
            refine AllReadyH.cons (o := { dst := some 64, op := Op.call { callee := Callee.value (Operand.func 15), args := #[Operand.tmp 59, Operand.tmp 61, Operand.tmp 63], argTypes := #[25, 3, 29] }, type := 36, pos := "law.go:54", after := #[{ on := 0, ground := Ground.data }, { on := 2, ground := Ground.data }, { on := 4, ground := Ground.data }], guard := none }) rfl (fun K hK => ?_) AllReadyH.nil
            go_simp
            refine (HP.out _ (hO4.out.quiet (grown_drew (World.grownBy.refl _ _)))).mono ?_
            rintro e wA ⟨rfl, hA⟩
            have hS1 : SX wr.heap.size O A V wA := Own.box hA 3 rfl
            replace hA := Lib.hid hA
            refine hK.out _ _ ?hsr3r18o5 (fun hS => ?_)
            case hsr3r18o5 => (exact hS1)
            clear hK K
            try simp only [Act.put, List.setIfInBounds_toArray, List.set_cons_zero, List.set_cons_succ]
            refine wpAnyH_ready (rs := [11]) (by kernel_rfl) (by simp) ?_
            refine AllReadyH.cons (o := { dst := some 70, op := Op.call { callee := Callee.value (Operand.func 16), args := #[Operand.tmp 65, Operand.tmp 67, Operand.tmp 69], argTypes := #[27, 3, 29] }, type := 36, pos := "law.go:54", after := #[{ on := 6, ground := Ground.data }, { on := 8, ground := Ground.data }, { on := 10, ground := Ground.data }, { on := 5, ground := Ground.chain }], guard := none }) rfl (fun K hK => ?_) AllReadyH.nil
            go_simp
            refine (HR.out _ hA.out).mono ?_
            rintro e wB ⟨rfl, hB⟩
            have hS1 : SX wr.heap.size O A V wB := Own.box hB 3 rfl
            replace hB := Lib.hid hB
            refine hK.out _ _ ?hsr3r18o11 (fun hS => ?_)
            case hsr3r18o11 => (exact hS1)
            clear hK K
            try simp only [Act.put, List.setIfInBounds_toArray, List.set_cons_zero, List.set_cons_succ]
            refine wpAnyH_take (i := 12) (oi := { dst := some 71, op := Op.binOp BinOp.eql 36 (Operand.tmp 64) (Operand.tmp 70) 36, type := 4, pos := "law.go:54", after := #[{ on := 5, ground := Ground.data }, { on := 11, ground := Ground.data }], guard := none }) (v := ?vr3r18o12) rfl (by kernel_rfl) (by kernel_rfl) (by kernel_rfl) (fun _ _ _ h => h) (Or.inl ⟨by rfl, ?hr3r18o12⟩) hS ?_
            case hr3r18o12 => (intro wx hx; skip; go_simp; (try with_reducible rfl))
            try simp only [Act.put, List.setIfInBounds_toArray, List.set_cons_zero, List.set_cons_succ]
            refine wpAnyH_take (i := 13) (oi := { dst := some 72, op := Op.move (Operand.tmp 71), type := 4, pos := "law.go:54", after := #[{ on := 12, ground := Ground.data }, { on := 11, ground := Ground.chain }], guard := none }) (v := ?vr3r18o13) rfl (by kernel_rfl) (by kernel_rfl) (by kernel_rfl) (fun _ _ _ h => h) (Or.inl ⟨by rfl, ?hr3r18o13⟩) hS ?_
            case hr3r18o13 => (intro wx hx; skip; go_simp; (try with_reducible rfl))
            try simp only [Act.put, List.setIfInBounds_toArray, List.set_cons_zero, List.set_cons_succ]
            refine wpAnyH_take (i := 14) (oi := { dst := some 73, op := Op.move (Operand.tmp 6), type := 25, pos := "law.go:54", after := #[{ on := 13, ground := Ground.guard }], guard := some (13, true) }) (v := ?vr3r18o14) rfl (by kernel_rfl) (by kernel_rfl) (by kernel_rfl) (fun _ _ _ h => h) (Or.inl ⟨by rfl, ?hr3r18o14⟩) hS ?_
            case hr3r18o14 => (intro wx hx; skip; go_simp; (try with_reducible rfl))
            try simp only [Act.put, List.setIfInBounds_toArray, List.set_cons_zero, List.set_cons_succ]
            refine wpAnyH_take (i := 15) (oi := { dst := some 74, op := Op.fieldAddr 31 (Operand.tmp 10) 1, type := 0, pos := "law.go:54", after := #[{ on := 13, ground := Ground.guard }], guard := some (13, true) }) (v := ?vr3r18o15) rfl (by kernel_rfl) (by kernel_rfl) (by kernel_rfl) (fun _ _ _ h => h) (Or.inl ⟨by rfl, ?hr3r18o15⟩) hS ?_
            case hr3r18o15 => (intro wx hx; skip; go_simp; (try with_reducible rfl))
            try simp only [Act.put, List.setIfInBounds_toArray, List.set_cons_zero, List.set_cons_succ]
            refine wpAnyH_take (i := 16) (oi := { dst := some 75, op := Op.load 3 (Operand.tmp 74), type := 3, pos := "law.go:54", after := #[{ on := 15, ground := Ground.data }, { on := 13, ground := Ground.guard }], guard := some (13, true) }) (v := ?vr3r18o16) rfl (by kernel_rfl) (by kernel_rfl) (by kernel_rfl) (fun _ _ _ h => h) (Or.inl ⟨by rfl, ?hr3r18o16⟩) hS ?_
            case hr3r18o16 => (intro wx hx; obtain ⟨x0, x1, x2⟩ := SX.facts hx; go_simp; (try with_reducible rfl))
            try simp only [Act.put, List.setIfInBounds_toArray, List.set_cons_zero, List.set_cons_succ]
            refine wpAnyH_take (i := 18) (oi := { dst := some 77, op := Op.move (Operand.tmp 7), type := 27, pos := "law.go:54", after := #[{ on := 13, ground := Ground.guard }], guard := some (13, true) }) (v := ?vr3r18o18) rfl (by kernel_rfl) (by kernel_rfl) (by kernel_rfl) (fun _ _ _ h => h) (Or.inl ⟨by rfl, ?hr3r18o18⟩) hS ?_
            case hr3r18o18 => (intro wx hx; skip; go_simp; (try with_reducible rfl))
            try simp only [Act.put, List.setIfInBounds_toArray, List.set_cons_zero, List.set_cons_succ]
            refine wpAnyH_take (i := 19) (oi := { dst := some 78, op := Op.fieldAddr 31 (Operand.tmp 10) 1, type := 0, pos := "law.go:54", after := #[{ on := 13, ground := Ground.guard }], guard := some (13, true) }) (v := ?vr3r18o19) rfl (by kernel_rfl) (by kernel_rfl) (by kernel_rfl) (fun _ _ _ h => h) (Or.inl ⟨by rfl, ?hr3r18o19⟩) hS ?_
            case hr3r18o19 => (intro wx hx; skip; go_simp; (try with_reducible rfl))
            try simp only [Act.put, List.setIfInBounds_toArray, List.set_cons_zero, List.set_cons_succ]
            refine wpAnyH_take (i := 20) (oi := { dst := some 79, op := Op.load 3 (Operand.tmp 78), type := 3, pos := "law.go:54", after := #[{ on := 19, ground := Ground.data }, { on := 13, ground := Ground.guard }], guard := some (13, true) }) (v := ?vr3r18o20) rfl (by kernel_rfl) (by kernel_rfl) (by kernel_rfl) (fun _ _ _ h => h) (Or.inl ⟨by rfl, ?hr3r18o20⟩) hS ?_
            case hr3r18o20 => (intro wx hx; obtain ⟨x0, x1, x2⟩ := SX.facts hx; go_simp; (try with_reducible rfl))
            try simp only [Act.put, List.setIfInBounds_toArray, List.set_cons_zero, List.set_cons_succ]
            refine wpAnyH_ready (rs := [17]) (by kernel_rfl) (by simp) ?_
            refine AllReadyH.cons (o := { dst := some 76, op := Op.call { callee := Callee.value (Operand.func 12), args := #[Operand.tmp 73, Operand.tmp 75], argTypes := #[25, 3] }, type := 29, pos := "law.go:54", after := #[{ on := 14, ground := Ground.data }, { on := 16, ground := Ground.data }, { on := 13, ground := Ground.chain }, { on := 13, ground := Ground.guard }], guard := some (13, true) }) rfl (fun K hK => ?_) AllReadyH.nil
            go_simp
            refine (HG1.out _ hB.out).mono ?_
            rintro e wC ⟨rfl, rfl⟩
            have hS1 : SX wr.heap.size O A V wC := Own.box hB.out 3 rfl
            refine hK.out _ _ ?hsr3r18o17 (fun hS => ?_)
            case hsr3r18o17 => (exact hS1)
            clear hK K
            try simp only [Act.put, List.setIfInBounds_toArray, List.set_cons_zero, List.set_cons_succ]
            refine wpAnyH_ready (rs := [21]) (by kernel_rfl) (by simp) ?_
            refine AllReadyH.cons (o := { dst := some 80, op := Op.call { callee := Callee.value (Operand.func 13), args := #[Operand.tmp 77, Operand.tmp 79], argTypes := #[27, 3] }, type := 29, pos := "law.go:54", after := #[{ on := 18, ground := Ground.data }, { on := 20, ground := Ground.data }, { on := 17, ground := Ground.chain }, { on := 13, ground := Ground.guard }], guard := some (13, true) }) rfl (fun K hK => ?_) AllReadyH.nil
            go_simp
            refine (HG2.out _ hB.out).mono ?_
            rintro e wD ⟨rfl, rfl⟩
            have hS1 : SX wr.heap.size O A V wD := Own.box hB.out 3 rfl
            refine hK.out _ _ ?hsr3r18o21 (fun hS => ?_)
            case hsr3r18o21 => (exact hS1)
            clear hK K
            try simp only [Act.put, List.setIfInBounds_toArray, List.set_cons_zero, List.set_cons_succ]
            refine wpAnyH_take (i := 22) (oi := { dst := some 81, op := Op.binOp BinOp.eql 29 (Operand.tmp 76) (Operand.tmp 80) 29, type := 4, pos := "law.go:54", after := #[{ on := 17, ground := Ground.data }, { on := 21, ground := Ground.data }, { on := 13, ground := Ground.guard }], guard := some (13, true) }) (v := ?vr3r18o22) rfl (by kernel_rfl) (by kernel_rfl) (by kernel_rfl) (fun _ _ _ h => h) (Or.inl ⟨by rfl, ?hr3r18o22⟩) hS ?_
            case hr3r18o22 => (intro wx hx; skip; go_simp; (try with_reducible rfl))
            try simp only [Act.put, List.setIfInBounds_toArray, List.set_cons_zero, List.set_cons_succ]
            refine wpAnyH_take (i := 23) (oi := { dst := some 82, op := Op.pick (Operand.tmp 72) (Operand.tmp 81) (Operand.const (Value.bool false)), type := 4, pos := "law.go:54", after := #[{ on := 13, ground := Ground.data }, { on := 22, ground := Ground.data }], guard := none }) (v := ?vr3r18o23) rfl (by kernel_rfl) (by kernel_rfl) (by kernel_rfl) (fun _ _ _ h => h) (Or.inl ⟨by rfl, ?hr3r18o23⟩) hS ?_
            case hr3r18o23 => (intro wx hx; skip; go_simp; (try with_reducible rfl))
            try simp only [Act.put, List.setIfInBounds_toArray, List.set_cons_zero, List.set_cons_succ]
            refine wpAnyH_take (i := 24) (oi := { dst := some 11, op := Op.assign (Operand.tmp 82), type := 4, pos := "law.go:54", after := #[{ on := 23, ground := Ground.data }, { on := 21, ground := Ground.chain }, { on := 0, ground := Ground.phase }, { on := 1, ground := Ground.phase }, { on := 2, ground := Ground.phase }, { on := 3, ground := Ground.phase }, { on := 4, ground := Ground.phase }, { on := 5, ground := Ground.phase }, { on := 6, ground := Ground.phase }, { on := 7, ground := Ground.phase }, { on := 8, ground := Ground.phase }, { on := 9, ground := Ground.phase }, { on := 10, ground := Ground.phase }, { on := 11, ground := Ground.phase }, { on := 12, ground := Ground.phase }, { on := 13, ground := Ground.phase }, { on := 14, ground := Ground.phase }, { on := 15, ground := Ground.phase }, { on := 16, ground := Ground.phase }, { on := 17, ground := Ground.phase }, { on := 18, ground := Ground.phase }, { on := 19, ground := Ground.phase }, { on := 20, ground := Ground.phase }, { on := 21, ground := Ground.phase }, { on := 22, ground := Ground.phase }, { on := 23, ground := Ground.phase }], guard := none }) (v := ?vr3r18o24) rfl (by kernel_rfl) (by kernel_rfl) (by kernel_rfl) (fun _ _ _ h => h) (Or.inl ⟨by rfl, ?hr3r18o24⟩) hS ?_
            case hr3r18o24 => (intro wx hx; skip; go_simp; (try with_reducible rfl))
            try simp only [Act.put, List.setIfInBounds_toArray, List.set_cons_zero, List.set_cons_succ]
            refine wpAnyH_done (by kernel_rfl) ?_ _
            clear hS1 x1 x2 HP HR HG1 HG2 hA hO4
            rename_i hSx
            clear hSx
            obtain ⟨Wz, L9, b9, hWz, hO9⟩ : ∃ Wz L9 b9, Wz = wD ∧ Hid (Own w Wz (Three (.slice ad2 l0 cp2) l0 ys g r xs L9 b9 ++ [XB wr.heap.size O A V])) := ⟨wD, M, b', rfl, hB⟩
            subst hWz
            clear hB
            go_wp2_with fail
            obtain ⟨vi9, adl, cpl, hob9, hrow9, hwl9, _⟩ := Own.refObj hO9.out 2 rfl
            obtain ⟨m9, Hm9⟩ : ∃ m9, Hid (m9 = L9.length) := ⟨_, Lib.hid rfl⟩
            rw [← Hm9.out] at hob9 hrow9
            have hat9 := Lib.hid (row_at hrow9 rfl)
            have hm96 : m9 ≤ 96 := by rw [Hm9.out]; exact hwl9.few
            have hob9' : SR r vi9 adl m9 cpl b9 Wz := hob9
            replace hob9' := Lib.hid hob9'
            clear hrow9 hwl9 hob9
            by_cases hten : (j : Int) % 10 = 0
            · have y1 : ((j : Int) % 10 == 0) = true := by simpa using hten
              have y2 : ((j : Int).tmod 10 == 0) = true := by rw [Int.tmod_eq_emod_of_nonneg j0]; simpa using hten
              have HW := Lib.hid (fun wx (h : Own w wx (Three (.slice ad2 l0 cp2) l0 ys g r xs L9 b9 ++ [XB wr.heap.size O A V])) => WritesG 1 g xs L9 w wx _ h rfl)
              rw [← Hm9.out] at HW
              clear hten
              refine wp_region_held_drew (S := fun w' => SR r vi9 adl m9 cpl b9 w') (by kernel_rfl) (hob9'.out) (fun hS => ?_)
              refine wpAnyH_take (i := 0) (oi := { dst := some 101, op := Op.move (Operand.tmp 11), type := 4, pos := "law.go:56", after := #[], guard := none }) (v := ?vtc3r24o0) rfl (by kernel_rfl) (by kernel_rfl) (by kernel_rfl) (fun _ _ _ h => h) (Or.inl ⟨by rfl, ?htc3r24o0⟩) hS ?_
              case htc3r24o0 => (intro wx hx; skip; go_simp; (try with_reducible rfl))
              try simp only [Act.put, List.setIfInBounds_toArray, List.set_cons_zero, List.set_cons_succ]
              refine wpAnyH_take (i := 1) (oi := { dst := some 102, op := Op.unOp UnOp.not 4 (Operand.tmp 101), type := 4, pos := "law.go:56", after := #[{ on := 0, ground := Ground.data }], guard := none }) (v := ?vtc3r24o1) rfl (by kernel_rfl) (by kernel_rfl) (by kernel_rfl) (fun _ _ _ h => h) (Or.inl ⟨by rfl, ?htc3r24o1⟩) hS ?_
              case htc3r24o1 => (intro wx hx; skip; go_simp; (try with_reducible rfl))
              try simp only [Act.put, List.setIfInBounds_toArray, List.set_cons_zero, List.set_cons_succ]
              refine wpAnyH_take (i := 2) (oi := { dst := some 103, op := Op.move (Operand.tmp 102), type := 4, pos := "law.go:56", after := #[{ on := 1, ground := Ground.data }], guard := none }) (v := ?vtc3r24o2) rfl (by kernel_rfl) (by kernel_rfl) (by kernel_rfl) (fun _ _ _ h => h) (Or.inl ⟨by rfl, ?htc3r24o2⟩) hS ?_
              case htc3r24o2 => (intro wx hx; skip; go_simp; (try with_reducible rfl))
              try simp only [Act.put, List.setIfInBounds_toArray, List.set_cons_zero, List.set_cons_succ]
              refine wpAnyH_take (i := 3) (oi := { dst := some 104, op := Op.move (Operand.tmp 9), type := 3, pos := "law.go:56", after := #[{ on := 2, ground := Ground.guard }], guard := some (2, false) }) (v := ?vtc3r24o3) rfl (by kernel_rfl) (by kernel_rfl) (by kernel_rfl) (fun _ _ _ h => h) (Or.inl ⟨by rfl, ?htc3r24o3⟩) hS ?_
              case htc3r24o3 => (intro wx hx; skip; go_simp; (try with_reducible rfl))
              try simp only [Act.put, List.setIfInBounds_toArray, List.set_cons_zero, List.set_cons_succ]
              refine wpAnyH_take (i := 4) (oi := { dst := some 105, op := Op.binOp BinOp.rem 3 (Operand.tmp 104) (Operand.const (Value.int IntKind.i64 10)) 3, type := 3, pos := "law.go:56", after := #[{ on := 3, ground := Ground.data }, { on := 2, ground := Ground.guard }], guard := some (2, false) }) (v := ?vtc3r24o4) rfl (by kernel_rfl) (by kernel_rfl) (by kernel_rfl) (fun _ _ _ h => h) (Or.inl ⟨by rfl, ?htc3r24o4⟩) hS ?_
              case htc3r24o4 => (intro wx hx; skip; go_simp; (try with_reducible rfl))
              try simp only [Act.put, List.setIfInBounds_toArray, List.set_cons_zero, List.set_cons_succ]
              refine wpAnyH_take (i := 5) (oi := { dst := some 106, op := Op.binOp BinOp.eql 3 (Operand.tmp 105) (Operand.const (Value.int IntKind.i64 0)) 3, type := 4, pos := "law.go:56", after := #[{ on := 4, ground := Ground.data }, { on := 2, ground := Ground.guard }], guard := some (2, false) }) (v := ?vtc3r24o5) rfl (by kernel_rfl) (by kernel_rfl) (by kernel_rfl) (fun _ _ _ h => h) (Or.inl ⟨by rfl, ?htc3r24o5⟩) hS ?_
              case htc3r24o5 => (intro wx hx; skip; go_simp; (try with_reducible rfl))
              try simp only [Act.put, List.setIfInBounds_toArray, List.set_cons_zero, List.set_cons_succ]
              refine wpAnyH_take (i := 6) (oi := { dst := some 107, op := Op.move (Operand.tmp 106), type := 4, pos := "law.go:56", after := #[{ on := 5, ground := Ground.data }, { on := 2, ground := Ground.chain }, { on := 2, ground := Ground.guard }], guard := some (2, false) }) (v := ?vtc3r24o6) rfl (by kernel_rfl) (by kernel_rfl) (by kernel_rfl) (fun _ _ _ h => h) (Or.inl ⟨by rfl, ?htc3r24o6⟩) hS ?_
              case htc3r24o6 => (intro wx hx; skip; go_simp; (try with_reducible rfl))
              try simp only [Act.put, List.setIfInBounds_toArray, List.set_cons_zero, List.set_cons_succ]
              refine wpAnyH_take (i := 7) (oi := { dst := some 108, op := Op.move (Operand.tmp 6), type := 25, pos := "law.go:56", after := #[{ on := 6, ground := Ground.guard }], guard := some (6, true) }) (v := ?vtc3r24o7) rfl (by kernel_rfl) (by kernel_rfl) (by kernel_rfl) (fun _ _ _ h => h) (Or.inl ⟨by rfl, ?htc3r24o7⟩) hS ?_
              case htc3r24o7 => (intro wx hx; skip; go_simp; (try with_reducible rfl))
              try simp only [Act.put, List.setIfInBounds_toArray, List.set_cons_zero, List.set_cons_succ]
              refine wpAnyH_take (i := 9) (oi := { dst := some 110, op := Op.move (Operand.tmp 7), type := 27, pos := "law.go:56", after := #[{ on := 6, ground := Ground.guard }], guard := some (6, true) }) (v := ?vtc3r24o9) rfl (by kernel_rfl) (by kernel_rfl) (by kernel_rfl) (fun _ _ _ h => h) (Or.inl ⟨by rfl, ?htc3r24o9⟩) hS ?_
              case htc3r24o9 => (intro wx hx; skip; go_simp; (try with_reducible rfl))
              try simp only [Act.put, List.setIfInBounds_toArray, List.set_cons_zero, List.set_cons_succ]
              refine wpAnyH_take (i := 10) (oi := { dst := some 111, op := Op.nilCheck (Operand.tmp 110), type := 0, pos := "law.go:56", after := #[{ on := 9, ground := Ground.data }, { on := 6, ground := Ground.guard }], guard := some (6, true) }) (v := ?vtc3r24o10) rfl (by kernel_rfl) (by kernel_rfl) (by kernel_rfl) (fun _ _ _ h => h) (Or.inl ⟨by rfl, ?htc3r24o10⟩) hS ?_
              case htc3r24o10 => (intro wx hx; skip; go_simp; (try with_reducible rfl))
              try simp only [Act.put, List.setIfInBounds_toArray, List.set_cons_zero, List.set_cons_succ]
              refine wpAnyH_take (i := 11) (oi := { dst := some 112, op := Op.fieldAddr 35 (Operand.tmp 111) 1, type := 0, pos := "law.go:56", after := #[{ on := 10, ground := Ground.data }, { on := 6, ground := Ground.guard }], guard := some (6, true) }) (v := ?vtc3r24o11) rfl (by kernel_rfl) (by kernel_rfl) (by kernel_rfl) (fun _ _ _ h => h) (Or.inl ⟨by rfl, ?htc3r24o11⟩) hS ?_
              case htc3r24o11 => (intro wx hx; skip; go_simp; (try with_reducible rfl))
              try simp only [Act.put, List.setIfInBounds_toArray, List.set_cons_zero, List.set_cons_succ]
              refine wpAnyH_take (i := 12) (oi := { dst := some 113, op := Op.load 33 (Operand.tmp 112), type := 33, pos := "law.go:56", after := #[{ on := 11, ground := Ground.data }, { on := 6, ground := Ground.guard }], guard := some (6, true) }) (v := ?vtc3r24o12) rfl (by kernel_rfl) (by kernel_rfl) (by kernel_rfl) (fun _ _ _ h => h) (Or.inl ⟨by rfl, ?htc3r24o12⟩) hS ?_
              case htc3r24o12 => (intro wx hx; have x0 := SR.fact hx; go_simp; (try with_reducible rfl))
              try simp only [Act.put, List.setIfInBounds_toArray, List.set_cons_zero, List.set_cons_succ]
              refine wpAnyH_ready (rs := [8]) (by kernel_rfl) (by simp) ?_
              refine AllReadyH.cons (o := { dst := some 109, op := Op.call { callee := Callee.value (Operand.func 18), args := #[Operand.tmp 108], argTypes := #[25] }, type := 33, pos := "law.go:56", after := #[{ on := 7, ground := Ground.data }, { on := 6, ground := Ground.chain }, { on := 6, ground := Ground.guard }], guard := some (6, true) }) rfl (fun K hK => ?_) AllReadyH.nil
              go_simp
              refine (HW.out _ (hO9.out.quiet (grown_drew (World.grownBy.refl _ _)))).mono ?_
              rintro e wW ⟨ad7, cp7, rfl, hW7, hgw⟩
              have hS1 := SR.keep hS hgw
              obtain ⟨p7, _⟩ := Own.pairs hW7 4 rfl
              have p9 := hat9.out.grown (grown_trans (grown_drew (World.grownBy.refl _ none)) hgw) (by simp)
              replace hW7 := Lib.hid hW7
              have HS7 := Lib.hid (SameW_any ad7 adl m9 m9 cp7 cpl L9 L9 wW p7 p9 Hm9.out.symm Hm9.out.symm (by omega))
              rw [decide_eq_true rfl] at HS7
              clear p7 p9 hgw
              refine hK.out _ _ ?hstc3r24o8 (fun hS => ?_)
              case hstc3r24o8 => (exact hS1)
              clear hK K
              try simp only [Act.put, List.setIfInBounds_toArray, List.set_cons_zero, List.set_cons_succ]
              refine wpAnyH_ready (rs := [13]) (by kernel_rfl) (by simp) ?_
              refine AllReadyH.cons (o := { dst := some 114, op := Op.call { callee := Callee.value (Operand.func 17), args := #[Operand.tmp 109, Operand.tmp 113], argTypes := #[33, 33] }, type := 4, pos := "law.go:56", after := #[{ on := 8, ground := Ground.data }, { on := 12, ground := Ground.data }, { on := 8, ground := Ground.chain }, { on := 6, ground := Ground.guard }], guard := some (6, true) }) rfl (fun K hK => ?_) AllReadyH.nil
              go_simp
              refine HS7.out.mono ?_
              rintro e wS ⟨rfl, hgs⟩
              have hS1 := SR.keep hS hgs
              refine hK.out _ _ ?hstc3r24o13 (fun hS => ?_)
              case hstc3r24o13 => (exact hS1)
              clear hK K
              try simp only [Act.put, List.setIfInBounds_toArray, List.set_cons_zero, List.set_cons_succ]
              refine wpAnyH_take (i := 14) (oi := { dst := some 115, op := Op.unOp UnOp.not 4 (Operand.tmp 114), type := 4, pos := "law.go:56", after := #[{ on := 13, ground := Ground.data }, { on := 6, ground := Ground.guard }], guard := some (6, true) }) (v := ?vtc3r24o14) rfl (by kernel_rfl) (by kernel_rfl) (by kernel_rfl) (fun _ _ _ h => h) (Or.inl ⟨by rfl, ?htc3r24o14⟩) hS ?_
              case htc3r24o14 => (intro wx hx; skip; go_simp; (try with_reducible rfl))
              try simp only [Act.put, List.setIfInBounds_toArray, List.set_cons_zero, List.set_cons_succ]
              refine wpAnyH_take (i := 15) (oi := { dst := some 116, op := Op.pick (Operand.tmp 107) (Operand.tmp 115) (Operand.const (Value.bool false)), type := 4, pos := "law.go:56", after := #[{ on := 6, ground := Ground.data }, { on := 14, ground := Ground.data }, { on := 2, ground := Ground.guard }], guard := some (2, false) }) (v := ?vtc3r24o15) rfl (by kernel_rfl) (by kernel_rfl) (by kernel_rfl) (fun _ _ _ h => h) (Or.inl ⟨by rfl, ?htc3r24o15⟩) hS ?_
              case htc3r24o15 => (intro wx hx; skip; go_simp; (try with_reducible rfl))
              try simp only [Act.put, List.setIfInBounds_toArray, List.set_cons_zero, List.set_cons_succ]
              refine wpAnyH_take (i := 16) (oi := { dst := some 117, op := Op.pick (Operand.tmp 103) (Operand.const (Value.bool true)) (Operand.tmp 116), type := 4, pos := "law.go:56", after := #[{ on := 2, ground := Ground.data }, { on := 15, ground := Ground.data }], guard := none }) (v := ?vtc3r24o16) rfl (by kernel_rfl) (by kernel_rfl) (by kernel_rfl) (fun _ _ _ h => h) (Or.inl ⟨by rfl, ?htc3r24o16⟩) hS ?_
              case htc3r24o16 => (intro wx hx; skip; go_simp; (try with_reducible rfl))
              try simp only [Act.put, List.setIfInBounds_toArray, List.set_cons_zero, List.set_cons_succ]
              refine wpAnyH_done (by kernel_rfl) ?_ _
              have hO10 : Own w wS (Three (.slice ad2 l0 cp2) l0 ys g r xs L9 b9) := ((Own.less (Own.less hW7.out))).quiet hgs
              replace hO10 := Lib.hid hO10
              clear hgs HS7 HW hW7 y1 y2
              go_wp2
              go_roundw
              case rel => exact ⟨j + 1, by omega, by go_num, L9, b9, hO10⟩
              case measure => simp [intOf]; omega
            · have y1 : ((j : Int) % 10 == 0) = false := by simpa using hten
              have y2 : ((j : Int).tmod 10 == 0) = false := by rw [Int.tmod_eq_emod_of_nonneg j0]; simpa using hten
              clear hten
              go_quiet (fail)
              generalize hWy : World.drewN _ _ = Wy
              have hO10 : Hid (Own w Wy (Three (.slice ad2 l0 cp2) l0 ys g r xs L9 b9)) := Lib.hid (by rw [← hWy]; exact (Own.less hO9.out).quiet (grown_drewN _ _ _))
              clear hWy y1 y2
              go_wp2
              go_roundw
              case rel => exact ⟨j + 1, by omega, by go_num, L9, b9, hO10⟩
              case measure => simp [intOf]; omega
        · have hjt' : ¬ (j : Int) < (l1 : Int) := by omega
          obtain ⟨vi, adl, cpl, hob, hrow, hwl, hsm, hfit⟩ := Own.refObj HO.out 2 rfl
          obtain ⟨m, Hm⟩ : ∃ m, Hid (m = L.length) := ⟨_, Lib.hid rfl⟩
          rw [← Hm.out] at hob hrow
          have hat9 := Lib.hid (row_at hrow rfl)
          have hm96 : m ≤ 96 := by rw [Hm.out]; exact hwl.few
          have hfs := Lib.hid (flatV_small hsm hwl.val)
          have hvs := Lib.hid hwl.val
          have hob' : SR r vi adl m cpl b wr := hob
          replace hob' := Lib.hid hob'
          have HW := Lib.hid (WritesG 1 g xs L w wr _ HO.out rfl)
          rw [← Hm.out] at HW
          clear hrow hwl hob hsm hfit HO
          go_wp2_with fail
          refine HW.out.mono ?_
          rintro e x1 ⟨ad7, cp7, rfl, HO, hg1⟩
          clear HW
          have HF := Lib.hid (FlatG 1 g xs L w x1 _ HO rfl)
          rw [HX.out] at HF
          clear HO
          go_wp2_with fail
          refine HF.out.mono ?_
          rintro e x2 ⟨ad8, cp8, rfl, HO, hg2⟩
          clear HF
          have HO : Own w x2 (Three (.slice ad2 l0 cp2) l0 ys g r xs L b ++ [rowP 44 2 (.slice ad7 m cp7) m (wcells L), rowP 29 1 (.slice ad8 l0 cp8) l0 ((flatV xs L).map wv)]) := HO
          have hg12 := grown_trans hg1 hg2
          have hr2 := SR.fact (SR.keep hob'.out hg12)
          obtain ⟨p7, _⟩ := Own.pairs HO 3 rfl
          have HS := Lib.hid (SameW_any ad7 adl m m cp7 cpl L L x2 p7 (hat9.out.grown hg12 (by simp)) Hm.out.symm Hm.out.symm (by omega))
          rw [decide_eq_true rfl] at HS
          replace HO := Lib.hid HO
          clear p7 hg1 hg2
          go_wp2_with fail
          refine HS.out.mono ?_
          rintro e x3 ⟨rfl, hg3⟩
          clear HS hr2
          replace HO := HO.out.quiet hg3
          have hg13 := grown_trans hg12 hg3
          have HF := Lib.hid (RefFlatG 2 r xs L b w x3 _ HO rfl)
          rw [HX.out] at HF
          clear HO hg12 hg3
          go_wp2_with fail
          refine HF.out.mono ?_
          rintro e x4 ⟨ad9, cp9, rfl, HO, hg4⟩
          clear HF
          have HO : Own w x4 (Three (.slice ad2 l0 cp2) l0 ys g r xs L b ++ [rowP 44 2 (.slice ad7 m cp7) m (wcells L), rowP 29 1 (.slice ad8 l0 cp8) l0 ((flatV xs L).map wv), rowP 29 1 (.slice ad9 l0 cp9) l0 ((flatV xs L).map wv)]) := HO
          have hg14 := grown_trans hg13 hg4
          obtain ⟨p8, _, _⟩ := Own.words HO 4 rfl hfs.out (by omega)
          obtain ⟨p9, _, _⟩ := Own.words HO 5 rfl hfs.out (by omega)
          have HS := Lib.hid (Same_any ad8 ad9 l0 l0 cp8 cp9 _ _ x4 p8 p9)
          rw [decide_eq_true rfl] at HS
          replace HO := Lib.hid HO
          clear p8 p9 hg13 hg4
          go_wp2_with fail
          refine HS.out.mono ?_
          rintro e x5 ⟨rfl, hg5⟩
          clear HS
          replace HO := HO.out.quiet hg5
          have hg15 := Lib.hid (grown_trans hg14 hg5)
          have HLn := Lib.hid (LenH 1 g xs L w x5 _ HO rfl)
          rw [HX.out] at HLn
          replace HO := Lib.hid (Own.less (Ps := Three (.slice ad2 l0 cp2) l0 ys g r xs L b ++ [rowP 44 2 (.slice ad7 m cp7) m (wcells L), rowP 29 1 (.slice ad8 l0 cp8) l0 ((flatV xs L).map wv)]) (Qs := [rowP 29 1 (.slice ad9 l0 cp9) l0 ((flatV xs L).map wv)]) HO)
          clear hg14 hg5
          have n1 : ((l0 : Int) != (l0 : Int)) = false := by simp
          go_wp2_with fail
          refine HLn.out.mono ?_
          rintro e x6 ⟨rfl, rfl⟩
          clear HLn
          go_wp2_with fail
          go_loopw [14] (fun i wr => ∃ k : Nat, k ≤ m ∧ i = .int .i64 (k : Int) ∧ ∃ M : List (Nat × Nat), Hid (M.length = m ∧ (∀ p ∈ M, p.2 < 18446744073709551616) ∧ Own w wr (Three (.slice ad2 l0 cp2) l0 ys g r xs L b ++ [rowP 44 2 (.slice ad7 m cp7) m (wcells M), rowP 29 1 (.slice ad8 l0 cp8) l0 ((flatV xs L).map wv)]))) (fun i _ => m - (intOf i).toNat)
          case atStart => exact ⟨0, Nat.zero_le _, rfl, L, Lib.hid ⟨Hm.out.symm, hvs.out, HO.out⟩⟩
          case round =>
            clear HO
            obtain ⟨i, hi, rfl, M, HM⟩ := hrel
            have i0 : (0 : Int) ≤ (i : Int) := by omega
            by_cases hit : i < m
            · have hit' : (i : Int) < (m : Int) := by omega
              have hiM : i < M.length := by rw [HM.out.1]; exact hit
              obtain ⟨q, rfl, d0, d1, hcp⟩ := Own.cell HM.out.2.2 3 rfl (i * 2 + 1) _ (wcells_at M i hiM).2
              have hs := HM.out.2.1 _ (getD_mem M i (0, 0) hiM)
              obtain ⟨Y, hY⟩ : ∃ Y, Hid (Y = (M.getD i (0, 0)).2) := ⟨_, Lib.hid rfl⟩
              rw [← hY.out] at d0 hs
              have t4 := wrap_succ Y hs
              obtain ⟨U, hU⟩ : ∃ U : Nat, Hid (U = (Y + 1) % 18446744073709551616) := ⟨_, Lib.hid rfl⟩
              rw [← hU.out] at t4
              have hUs : Hid (U < 18446744073709551616) := Lib.hid (by rw [hU.out]; exact Nat.mod_lt _ (by decide))
              have HS := Lib.hid (Own.store HM.out.2.2 3 rfl (i * 2 + 1) (.int .u64 (U : Int)))
              clear hs
              go_wp2
              go_roundw
              case rel =>
                refine ⟨i + 1, by omega, by go_num, M.set i ((M.getD i (0, 0)).1, U), Lib.hid ⟨by rw [List.length_set]; exact HM.out.1, ?_, ?_⟩⟩
                · intro p hp
                  rcases List.mem_or_eq_of_mem_set hp with h | h
                  · exact HM.out.2.1 p h
                  · rw [h]; exact hUs.out
                · have := HS.out
                  rw [wcells_set M i _ U hiM rfl] at this
                  exact this
              case measure => simp [intOf]; omega
            · have hit' : ¬ (i : Int) < (m : Int) := by omega
              have HO := Lib.hid HM.out.2.2
              clear HM
              go_wp2_with fail
              go_loopw [15] (fun i wr => ∃ k : Nat, k ≤ l0 ∧ i = .int .i64 (k : Int) ∧ ∃ zs : List Nat, Hid (zs.length = l0 ∧ (∀ p ∈ zs, p < 18446744073709551616) ∧ Own w wr (Three (.slice ad2 l0 cp2) l0 ys g r xs L b ++ [rowP 44 2 (.slice ad7 m cp7) m (wcells M), rowP 29 1 (.slice ad8 l0 cp8) l0 (zs.map wv)]))) (fun i _ => l0 - (intOf i).toNat)
              case atStart => exact ⟨0, Nat.zero_le _, rfl, flatV xs L, Lib.hid ⟨by rw [flatV_length]; exact HX.out, hfs.out, HO.out⟩⟩
              case round =>
                clear HO
                obtain ⟨n, hn, rfl, zs, HZs⟩ := hrel
                have n0 : (0 : Int) ≤ (n : Int) := by omega
                by_cases hnt : n < l0
                · have hnt' : (n : Int) < (l0 : Int) := by omega
                  obtain ⟨q, rfl, d0, d1, hcp⟩ := Own.word HZs.out.2.2 4 rfl HZs.out.1 n hnt
                  have hs := HZs.out.2.1 _ (getD_mem zs n 0 (by rw [HZs.out.1]; exact hnt))
                  obtain ⟨Y, hY⟩ : ∃ Y, Hid (Y = zs.getD n 0) := ⟨_, Lib.hid rfl⟩
                  rw [← hY.out] at d0 hs
                  have t4 := wrap_succ Y hs
                  obtain ⟨U, hU⟩ : ∃ U : Nat, Hid (U = (Y + 1) % 18446744073709551616) := ⟨_, Lib.hid rfl⟩
                  rw [← hU.out] at t4
                  have hUs : Hid (U < 18446744073709551616) := Lib.hid (by rw [hU.out]; exact Nat.mod_lt _ (by decide))
                  have HS := Lib.hid (Own.store HZs.out.2.2 4 rfl n (wv U))
                  clear hs
                  go_wp2
                  go_roundw
                  case rel =>
                    refine ⟨n + 1, by omega, by go_num, zs.set n U, Lib.hid ⟨by rw [List.length_set]; exact HZs.out.1, ?_, ?_⟩⟩
                    · intro p hp
                      rcases List.mem_or_eq_of_mem_set hp with h | h
                      · exact HZs.out.2.1 p h
                      · rw [h]; exact hUs.out
                    · have := HS.out
                      rw [map_wv_set] at this
                      exact this
                  case measure => simp [intOf]; omega
                · have hnt' : ¬ (n : Int) < (l0 : Int) := by omega
                  have HO := Own.less HZs.out.2.2
                  clear HZs hat9 hob' hg15
                  obtain ⟨vi2, adl2, cpl2, hob2, hrow2, _⟩ := Own.refObj HO 2 rfl
                  rw [← Hm.out] at hob2 hrow2
                  have hat2 := Lib.hid (row_at hrow2 rfl)
                  have hob2' : SR r vi2 adl2 m cpl2 b wr := hob2
                  replace hob2' := Lib.hid hob2'
                  replace HO := Lib.hid HO
                  clear hrow2 hob2
                  have HW := Lib.hid (fun wx (h : Own w wx (Three (.slice ad2 l0 cp2) l0 ys g r xs L b)) => WritesG 1 g xs L w wx _ h rfl)
                  rw [← Hm.out] at HW
                  have HF := Lib.hid (fun (ad : Option Addr) (cp : Nat) wx (h : Own w wx (Three (.slice ad2 l0 cp2) l0 ys g r xs L b ++ [rowP 44 2 (.slice ad m cp) m (wcells L)])) => FlatG 1 g xs L w wx _ h rfl)
                  rw [HX.out] at HF
                  have HG := Lib.hid (fun (ad ad' : Option Addr) (cp cp' : Nat) wx (h : Own w wx (Three (.slice ad2 l0 cp2) l0 ys g r xs L b ++ [rowP 44 2 (.slice ad m cp) m (wcells L)] ++ [rowP 29 1 (.slice ad' l0 cp') l0 ((flatV xs L).map wv)])) => RefFlatG 2 r xs L b w wx _ h rfl)
                  rw [HX.out] at HG
                  go_wp2_with fail
                  refine wp_region_held_drew (S := fun w' => SR r vi2 adl2 m cpl2 b w') (by kernel_rfl) (hob2'.out) (fun hS => ?_)
                  refine wpAnyH_take (i := 0) (oi := { dst := some 169, op := Op.move (Operand.tmp 6), type := 25, pos := "law.go:71", after := #[], guard := none }) (v := ?vtd3r38o0) rfl (by kernel_rfl) (by kernel_rfl) (by kernel_rfl) (fun _ _ _ h => h) (Or.inl ⟨by rfl, ?htd3r38o0⟩) hS ?_
                  case htd3r38o0 => (intro wx hx; skip; go_simp; (try with_reducible rfl))
                  try simp only [Act.put, List.setIfInBounds_toArray, List.set_cons_zero, List.set_cons_succ]
                  refine wpAnyH_take (i := 2) (oi := { dst := some 171, op := Op.move (Operand.tmp 7), type := 27, pos := "law.go:71", after := #[], guard := none }) (v := ?vtd3r38o2) rfl (by kernel_rfl) (by kernel_rfl) (by kernel_rfl) (fun _ _ _ h => h) (Or.inl ⟨by rfl, ?htd3r38o2⟩) hS ?_
                  case htd3r38o2 => (intro wx hx; skip; go_simp; (try with_reducible rfl))
                  try simp only [Act.put, List.setIfInBounds_toArray, List.set_cons_zero, List.set_cons_succ]
                  refine wpAnyH_take (i := 3) (oi := { dst := some 172, op := Op.nilCheck (Operand.tmp 171), type := 0, pos := "law.go:71", after := #[{ on := 2, ground := Ground.data }], guard := none }) (v := ?vtd3r38o3) rfl (by kernel_rfl) (by kernel_rfl) (by kernel_rfl) (fun _ _ _ h => h) (Or.inl ⟨by rfl, ?htd3r38o3⟩) hS ?_
                  case htd3r38o3 => (intro wx hx; skip; go_simp; (try with_reducible rfl))
                  try simp only [Act.put, List.setIfInBounds_toArray, List.set_cons_zero, List.set_cons_succ]
                  refine wpAnyH_take (i := 4) (oi := { dst := some 173, op := Op.fieldAddr 35 (Operand.tmp 172) 1, type := 0, pos := "law.go:71", after := #[{ on := 3, ground := Ground.data }], guard := none }) (v := ?vtd3r38o4) rfl (by kernel_rfl) (by kernel_rfl) (by kernel_rfl) (fun _ _ _ h => h) (Or.inl ⟨by rfl, ?htd3r38o4⟩) hS ?_
                  case htd3r38o4 => (intro wx hx; skip; go_simp; (try with_reducible rfl))
                  try simp only [Act.put, List.setIfInBounds_toArray, List.set_cons_zero, List.set_cons_succ]
                  refine wpAnyH_take (i := 5) (oi := { dst := some 174, op := Op.load 33 (Operand.tmp 173), type := 33, pos := "law.go:71", after := #[{ on := 4, ground := Ground.data }], guard := none }) (v := ?vtd3r38o5) rfl (by kernel_rfl) (by kernel_rfl) (by kernel_rfl) (fun _ _ _ h => h) (Or.inl ⟨by rfl, ?htd3r38o5⟩) hS ?_
                  case htd3r38o5 => (intro wx hx; have x0 := SR.fact hx; go_simp; (try with_reducible rfl))
                  try simp only [Act.put, List.setIfInBounds_toArray, List.set_cons_zero, List.set_cons_succ]
                  refine wpAnyH_ready (rs := [1]) (by kernel_rfl) (by simp) ?_
                  refine AllReadyH.cons (o := { dst := some 170, op := Op.call { callee := Callee.value (Operand.func 18), args := #[Operand.tmp 169], argTypes := #[25] }, type := 33, pos := "law.go:71", after := #[{ on := 0, ground := Ground.data }], guard := none }) rfl (fun K hK => ?_) AllReadyH.nil
                  go_simp
                  refine (HW.out _ (HO.out.quiet (grown_drew (World.grownBy.refl _ _)))).mono ?_
                  rintro e wW ⟨ad10, cp10, rfl, hW7, hgw⟩
                  have hS1 := SR.keep hS hgw
                  obtain ⟨p7, _⟩ := Own.pairs hW7 3 rfl
                  have p9 := hat2.out.grown (grown_trans (grown_drew (World.grownBy.refl _ none)) hgw) (by simp)
                  replace hW7 := Lib.hid hW7
                  have HS7 := Lib.hid (SameW_any ad10 adl2 m m cp10 cpl2 L L wW p7 p9 Hm.out.symm Hm.out.symm (by omega))
                  rw [decide_eq_true rfl] at HS7
                  clear p7 p9 hgw
                  refine hK.out _ _ ?hstd3r38o1 (fun hS => ?_)
                  case hstd3r38o1 => (exact hS1)
                  clear hK K
                  try simp only [Act.put, List.setIfInBounds_toArray, List.set_cons_zero, List.set_cons_succ]
                  refine wpAnyH_ready (rs := [6]) (by kernel_rfl) (by simp) ?_
                  refine AllReadyH.cons (o := { dst := some 175, op := Op.call { callee := Callee.value (Operand.func 17), args := #[Operand.tmp 170, Operand.tmp 174], argTypes := #[33, 33] }, type := 4, pos := "law.go:71", after := #[{ on := 1, ground := Ground.data }, { on := 5, ground := Ground.data }, { on := 1, ground := Ground.chain }], guard := none }) rfl (fun K hK => ?_) AllReadyH.nil
                  go_simp
                  refine HS7.out.mono ?_
                  rintro e wS ⟨rfl, hgs⟩
                  have hS1 := SR.keep hS hgs
                  replace hW7 := Lib.hid (hW7.out.quiet hgs)
                  clear hgs
                  refine hK.out _ _ ?hstd3r38o6 (fun hS => ?_)
                  case hstd3r38o6 => (exact hS1)
                  clear hK K
                  try simp only [Act.put, List.setIfInBounds_toArray, List.set_cons_zero, List.set_cons_succ]
                  refine wpAnyH_take (i := 7) (oi := { dst := some 176, op := Op.move (Operand.tmp 175), type := 4, pos := "law.go:71", after := #[{ on := 6, ground := Ground.data }, { on := 6, ground := Ground.chain }], guard := none }) (v := ?vtd3r38o7) rfl (by kernel_rfl) (by kernel_rfl) (by kernel_rfl) (fun _ _ _ h => h) (Or.inl ⟨by rfl, ?htd3r38o7⟩) hS ?_
                  case htd3r38o7 => (intro wx hx; skip; go_simp; (try with_reducible rfl))
                  try simp only [Act.put, List.setIfInBounds_toArray, List.set_cons_zero, List.set_cons_succ]
                  refine wpAnyH_take (i := 8) (oi := { dst := some 177, op := Op.move (Operand.tmp 6), type := 25, pos := "law.go:71", after := #[{ on := 7, ground := Ground.guard }], guard := some (7, true) }) (v := ?vtd3r38o8) rfl (by kernel_rfl) (by kernel_rfl) (by kernel_rfl) (fun _ _ _ h => h) (Or.inl ⟨by rfl, ?htd3r38o8⟩) hS ?_
                  case htd3r38o8 => (intro wx hx; skip; go_simp; (try with_reducible rfl))
                  try simp only [Act.put, List.setIfInBounds_toArray, List.set_cons_zero, List.set_cons_succ]
                  refine wpAnyH_take (i := 10) (oi := { dst := some 179, op := Op.move (Operand.tmp 7), type := 27, pos := "law.go:71", after := #[{ on := 7, ground := Ground.guard }], guard := some (7, true) }) (v := ?vtd3r38o10) rfl (by kernel_rfl) (by kernel_rfl) (by kernel_rfl) (fun _ _ _ h => h) (Or.inl ⟨by rfl, ?htd3r38o10⟩) hS ?_
                  case htd3r38o10 => (intro wx hx; skip; go_simp; (try with_reducible rfl))
                  try simp only [Act.put, List.setIfInBounds_toArray, List.set_cons_zero, List.set_cons_succ]
                  refine wpAnyH_ready (rs := [9]) (by kernel_rfl) (by simp) ?_
                  refine AllReadyH.cons (o := { dst := some 178, op := Op.call { callee := Callee.value (Operand.func 19), args := #[Operand.tmp 177], argTypes := #[25] }, type := 22, pos := "law.go:71", after := #[{ on := 8, ground := Ground.data }, { on := 7, ground := Ground.chain }, { on := 7, ground := Ground.guard }], guard := some (7, true) }) rfl (fun K hK => ?_) AllReadyH.nil
                  go_simp
                  refine (HF.out _ _ _ hW7.out).mono ?_
                  rintro e wF ⟨ad11, cp11, rfl, hW8, hgf⟩
                  have hS1 := SR.keep hS hgf
                  replace hW8 := Lib.hid hW8
                  clear hgf
                  refine hK.out _ _ ?hstd3r38o9 (fun hS => ?_)
                  case hstd3r38o9 => (exact hS1)
                  clear hK K
                  try simp only [Act.put, List.setIfInBounds_toArray, List.set_cons_zero, List.set_cons_succ]
                  refine wpAnyH_ready (rs := [11]) (by kernel_rfl) (by simp) ?_
                  refine AllReadyH.cons (o := { dst := some 180, op := Op.call { callee := Callee.value (Operand.func 21), args := #[Operand.tmp 179], argTypes := #[27] }, type := 22, pos := "law.go:71", after := #[{ on := 10, ground := Ground.data }, { on := 9, ground := Ground.chain }, { on := 7, ground := Ground.guard }], guard := some (7, true) }) rfl (fun K hK => ?_) AllReadyH.nil
                  go_simp
                  refine (HG.out _ _ _ _ _ hW8.out).mono ?_
                  rintro e wG ⟨ad12, cp12, rfl, hW9, hgf⟩
                  have hS1 := SR.keep hS hgf
                  clear hgf
                  obtain ⟨p8, _, _⟩ := Own.words hW9 4 rfl hfs.out (by omega)
                  obtain ⟨p9, _, _⟩ := Own.words hW9 5 rfl hfs.out (by omega)
                  have HS8 := Lib.hid (Same_any ad11 ad12 l0 l0 cp11 cp12 _ _ wG p8 p9)
                  rw [decide_eq_true rfl] at HS8
                  have hgr := hW9.grown
                  clear p8 p9 hW9
                  refine hK.out _ _ ?hstd3r38o11 (fun hS => ?_)
                  case hstd3r38o11 => (exact hS1)
                  clear hK K
                  try simp only [Act.put, List.setIfInBounds_toArray, List.set_cons_zero, List.set_cons_succ]
                  refine wpAnyH_ready (rs := [12]) (by kernel_rfl) (by simp) ?_
                  refine AllReadyH.cons (o := { dst := some 181, op := Op.call { callee := Callee.value (Operand.func 20), args := #[Operand.tmp 178, Operand.tmp 180], argTypes := #[22, 22] }, type := 4, pos := "law.go:71", after := #[{ on := 9, ground := Ground.data }, { on := 11, ground := Ground.data }, { on := 11, ground := Ground.chain }, { on := 7, ground := Ground.guard }], guard := some (7, true) }) rfl (fun K hK => ?_) AllReadyH.nil
                  go_simp
                  refine HS8.out.mono ?_
                  rintro e wH ⟨rfl, hgs⟩
                  have hS1 := SR.keep hS hgs
                  replace hgr := grown_trans hgr hgs
                  clear hgs
                  refine hK.out _ _ ?hstd3r38o12 (fun hS => ?_)
                  case hstd3r38o12 => (exact hS1)
                  clear hK K
                  try simp only [Act.put, List.setIfInBounds_toArray, List.set_cons_zero, List.set_cons_succ]
                  refine wpAnyH_take (i := 13) (oi := { dst := some 182, op := Op.pick (Operand.tmp 176) (Operand.tmp 181) (Operand.const (Value.bool false)), type := 4, pos := "law.go:71", after := #[{ on := 7, ground := Ground.data }, { on := 12, ground := Ground.data }], guard := none }) (v := ?vtd3r38o13) rfl (by kernel_rfl) (by kernel_rfl) (by kernel_rfl) (fun _ _ _ h => h) (Or.inl ⟨by rfl, ?htd3r38o13⟩) hS ?_
                  case htd3r38o13 => (intro wx hx; skip; go_simp; (try with_reducible rfl))
                  try simp only [Act.put, List.setIfInBounds_toArray, List.set_cons_zero, List.set_cons_succ]
                  refine wpAnyH_take (i := 14) (oi := { dst := some 183, op := Op.move (Operand.tmp 182), type := 4, pos := "law.go:71", after := #[{ on := 13, ground := Ground.data }, { on := 12, ground := Ground.chain }], guard := none }) (v := ?vtd3r38o14) rfl (by kernel_rfl) (by kernel_rfl) (by kernel_rfl) (fun _ _ _ h => h) (Or.inl ⟨by rfl, ?htd3r38o14⟩) hS ?_
                  case htd3r38o14 => (intro wx hx; skip; go_simp; (try with_reducible rfl))
                  try simp only [Act.put, List.setIfInBounds_toArray, List.set_cons_zero, List.set_cons_succ]
                  refine wpAnyH_ready (rs := [15]) (by kernel_rfl) (by simp) ?_
                  refine AllReadyH.cons (o := { dst := some 184, op := Op.call { callee := Callee.value (Operand.func 9), args := #[], argTypes := #[] }, type := 4, pos := "law.go:71", after := #[{ on := 14, ground := Ground.chain }, { on := 14, ground := Ground.guard }], guard := some (14, true) }) rfl (fun K hK => ?_) AllReadyH.nil
                  go_simp
                  refine (works_any _).mono ?_
                  rintro e wI ⟨rfl, hgs⟩
                  have hS1 := SR.keep hS hgs
                  replace hgr := grown_trans hgr hgs
                  clear hgs
                  refine hK.out _ _ ?hstd3r38o15 (fun hS => ?_)
                  case hstd3r38o15 => (exact hS1)
                  clear hK K
                  try simp only [Act.put, List.setIfInBounds_toArray, List.set_cons_zero, List.set_cons_succ]
                  refine wpAnyH_take (i := 16) (oi := { dst := some 185, op := Op.pick (Operand.tmp 183) (Operand.tmp 184) (Operand.const (Value.bool false)), type := 4, pos := "law.go:71", after := #[{ on := 14, ground := Ground.data }, { on := 15, ground := Ground.data }], guard := none }) (v := ?vtd3r38o16) rfl (by kernel_rfl) (by kernel_rfl) (by kernel_rfl) (fun _ _ _ h => h) (Or.inl ⟨by rfl, ?htd3r38o16⟩) hS ?_
                  case htd3r38o16 => (intro wx hx; skip; go_simp; (try with_reducible rfl))
                  try simp only [Act.put, List.setIfInBounds_toArray, List.set_cons_zero, List.set_cons_succ]
                  refine wpAnyH_take (i := 17) (oi := { dst := some 4, op := Op.assign (Operand.tmp 185), type := 4, pos := "law.go:71", after := #[{ on := 16, ground := Ground.data }, { on := 15, ground := Ground.chain }, { on := 0, ground := Ground.phase }, { on := 1, ground := Ground.phase }, { on := 2, ground := Ground.phase }, { on := 3, ground := Ground.phase }, { on := 4, ground := Ground.phase }, { on := 5, ground := Ground.phase }, { on := 6, ground := Ground.phase }, { on := 7, ground := Ground.phase }, { on := 8, ground := Ground.phase }, { on := 9, ground := Ground.phase }, { on := 10, ground := Ground.phase }, { on := 11, ground := Ground.phase }, { on := 12, ground := Ground.phase }, { on := 13, ground := Ground.phase }, { on := 14, ground := Ground.phase }, { on := 15, ground := Ground.phase }, { on := 16, ground := Ground.phase }], guard := none }) (v := ?vtd3r38o17) rfl (by kernel_rfl) (by kernel_rfl) (by kernel_rfl) (fun _ _ _ h => h) (Or.inl ⟨by rfl, ?htd3r38o17⟩) hS ?_
                  case htd3r38o17 => (intro wx hx; skip; go_simp; (try with_reducible rfl))
                  try simp only [Act.put, List.setIfInBounds_toArray, List.set_cons_zero, List.set_cons_succ]
                  refine wpAnyH_done (by kernel_rfl) ?_ _
                  go_wp2
                  go_ret
                  exact ⟨rfl, hgr⟩

theorem walk (a0 : Option Addr) (l0 c0 : Nat) (z0 : List Int) (a1 : Option Addr) (l1 c1 : Nat) (z1 : List Stp) (w : World) (w0 : RowIn .u64 w a0 l0 c0 z0) (w1 : StpsIn w a1 l1 z1) :
    Calls Try.prog 3 #[.slice a0 l0 c0, .slice a1 l1 c1] w (WorksIs w) := by
  obtain ⟨xs, hx⟩ := rowIn_words w0
  by_cases h0 : 1000 < l0
  · exact walk_far1 a0 l0 c0 a1 l1 c1 w h0
  · by_cases h1 : 300 < l1
    · exact walk_far2 a0 l0 c0 a1 l1 c1 w h0 h1
    · exact walk_at a0 l0 c0 xs a1 l1 c1 z1 w hx (fun e => w0.nil e) w1 h0 h1
end Go.Proofs.Ytdohnfiaiganbaa.viewPlays
