/- Texts of ours, packed. -/
import Derived.Test.YtpdofdloclmbdaaGreatRows
import Derived.BigQuiet
import Derived.Deep.QuietTactic
import Derived.Deep.RegionHeld
import Derived.Test.YtpdofdloclmbdaaGreatPk9
import Derived.Test.YtpdofdloclmbdaaGreatPk2
section
/- Package layout: May, the tables, their sums. -/
-- OPTIONAL
namespace Go.Proofs.YtpdofdloclmbdaaGreat
open Go.RowKit Go.Grommet

def gv (a b c : Int) : Value := .agg #[.int .i64 a, .int .i64 b, .int .i64 c]
def rv (r : Row) : Value := .agg #[.int .u8 r.kind, .int .i64 r.many, .int .i64 r.size]
def rowCells (r : Row) : List Value := [.int .u8 r.kind, .int .i64 r.many, .int .i64 r.size]

def IntIs (v : Int) (w : World) (e : Ending) (w' : World) : Prop := e = .returned (.int .i64 v) ∧ w.grownBy w' none
def BoolIs (v : Bool) (w : World) (e : Ending) (w' : World) : Prop := e = .returned (.bool v) ∧ w.grownBy w' none

theorem boolIs_mk {v x : Bool} {w w' : World} (h : v = x) (hg : w.grownBy w' none) : BoolIs v w (.returned (.bool x)) w' := ⟨by rw [h], hg⟩

set_option maxHeartbeats 1000000 in
theorem May_any (a b c : Int) (w : World) : Calls Tryz.prog 81 #[gv a b c] w (BoolIs (mayB a b c) w) := by
  unfold gv
  by_cases h1 : 1 ≤ a
  · by_cases h2 : a ≤ 4
    · by_cases h3 : 2 ≤ b
      · by_cases h4 : b ≤ 64
        · by_cases h5 : 2 ≤ c
          · by_cases h6 : c ≤ 512
            · have hv : mayB a b c = true := by unfold mayB; rw [decide_eq_true_eq]; omega
              rw [hv]
              go_enter Tryz.func81, Tryz.ntmps81
              go_wp2
              go_ret
              exact ⟨rfl, World.grownBy_alloc w _ none⟩
            · have hv : mayB a b c = false := by unfold mayB; rw [decide_eq_false_iff_not]; omega
              have hd : decide (c ≤ 512) = false := by simpa using h6
              rw [hv]
              go_enter Tryz.func81, Tryz.ntmps81
              go_wp2
              go_ret
              exact ⟨rfl, World.grownBy_alloc w _ none⟩
          · have hv : mayB a b c = false := by unfold mayB; rw [decide_eq_false_iff_not]; omega
            have hd : decide (2 ≤ c) = false := by simpa using h5
            rw [hv]
            go_enter Tryz.func81, Tryz.ntmps81
            go_wp2
            go_ret
            exact ⟨rfl, World.grownBy_alloc w _ none⟩
        · have hv : mayB a b c = false := by unfold mayB; rw [decide_eq_false_iff_not]; omega
          have hd : decide (b ≤ 64) = false := by simpa using h4
          rw [hv]
          go_enter Tryz.func81, Tryz.ntmps81
          go_wp2
          go_ret
          exact ⟨rfl, World.grownBy_alloc w _ none⟩
      · have hv : mayB a b c = false := by unfold mayB; rw [decide_eq_false_iff_not]; omega
        have hd : decide (2 ≤ b) = false := by simpa using h3
        rw [hv]
        go_enter Tryz.func81, Tryz.ntmps81
        go_wp2
        go_ret
        exact ⟨rfl, World.grownBy_alloc w _ none⟩
    · have hv : mayB a b c = false := by unfold mayB; rw [decide_eq_false_iff_not]; omega
      have hd : decide (a ≤ 4) = false := by simpa using h2
      rw [hv]
      go_enter Tryz.func81, Tryz.ntmps81
      go_wp2
      go_ret
      exact ⟨rfl, World.grownBy_alloc w _ none⟩
  · have hv : mayB a b c = false := by unfold mayB; rw [decide_eq_false_iff_not]; omega
    have hd : decide (1 ≤ a) = false := by simpa using h1
    rw [hv]
    go_enter Tryz.func81, Tryz.ntmps81
    go_wp2
    go_ret
    exact ⟨rfl, World.grownBy_alloc w _ none⟩

def TableIs (l : List Row) (w : World) (e : Ending) (w' : World) : Prop :=
  ∃ g, e = .returned (.slice (some ⟨g, 0, none⟩) l.length l.length) ∧ w'.heap[g]? = some (.cells (l.flatMap rowCells).toArray 173 (0, 0)) ∧ w.grownBy w' none

theorem grown_alloc2 (w : World) (a b : Obj) : w.grownBy ((w.alloc a).alloc b) none := grown_trans (World.grownBy_alloc w a none) (World.grownBy_alloc _ b none)

theorem heap_alloc_new2 (w : World) (a b : Obj) : ((w.alloc a).alloc b).heap[w.heap.size + 1]? = some b := by
  have := heap_alloc_new (w.alloc a) b
  rwa [show (w.alloc a).heap.size = w.heap.size + 1 from by simp] at this

set_option maxHeartbeats 1000000 in
theorem places_any (a b c : Int) (w : World) : Calls Tryz.prog 88 #[gv a b c] w (TableIs (placesR a b c) w) := by
  unfold gv
  go_enter Tryz.func88, Tryz.ntmps88
  go_wp2
  go_ret
  exact ⟨_, rfl, heap_alloc_new2 _ _ _, grown_alloc2 w _ _⟩

set_option maxHeartbeats 1000000 in
theorem within_any (w : World) : Calls Tryz.prog 123 #[] w (TableIs withinR w) := by
  go_enter Tryz.func123, Tryz.ntmps123
  go_wp2
  go_ret
  exact ⟨_, rfl, heap_alloc_new _ _, World.grownBy_alloc w _ none⟩
end Go.Proofs.YtpdofdloclmbdaaGreat
end
section
/- Package layout: sums, starts, finds. -/
-- OPTIONAL
namespace Go.Proofs.YtpdofdloclmbdaaGreat
open Go.RowKit Go.Grommet

set_option maxHeartbeats 1000000 in
theorem rowWords_any (r : Row) (w : World) (h : r.ok) : Calls Tryz.prog 106 #[rv r] w (IntIs r.all w) := by
  have hb := all_bd r h
  unfold Row.all at hb
  unfold Row.all rv
  obtain ⟨k, m, s⟩ := r
  dsimp only at hb ⊢
  have hw : IntKind.i64.wrap (m * s) = m * s := IntWalk.i64_in _ ⟨by omega, by omega⟩
  have HW := Lib.hid hw
  clear hb h
  go_enter Tryz.func106, Tryz.ntmps106
  go_wp2
  try rw [HW.out]
  go_ret
  exact ⟨rfl, World.grownBy_alloc w _ none⟩

/-- A table, or its beginning, in memory. -/
def Tab (w : World) (g : Nat) (l : List Row) : Prop := w.heap[g]? = some (.cells (l.flatMap rowCells).toArray 173 (0, 0))

theorem Tab.keep {w w' : World} {g : Nat} {l : List Row} (h : Tab w g l) (hg : w.grownBy w' none) : Tab w' g l :=
  (hg.block g (lt_of_block h) (by simp)).trans h

theorem flat_get (l : List Row) (k : Nat) (r : Row) (h : l[k]? = some r) : (l.flatMap rowCells)[k * 3]? = some (.int .u8 r.kind) ∧ (l.flatMap rowCells)[k * 3 + 1]? = some (.int .i64 r.many) ∧ (l.flatMap rowCells)[k * 3 + 2]? = some (.int .i64 r.size) := by
  induction l generalizing k with
  | nil => simp at h
  | cons x t ih =>
    cases k with
    | zero =>
      simp at h; subst h
      simp [rowCells]
    | succ j =>
      simp only [List.getElem?_cons_succ] at h
      obtain ⟨h0, h1, h2⟩ := ih j h
      have e : (j + 1) * 3 = j * 3 + 3 := by omega
      rw [e]
      simp only [List.flatMap_cons, rowCells, List.cons_append, List.nil_append]
      exact ⟨h0, h1, h2⟩

theorem Tab.cells {w : World} {g : Nat} {l : List Row} (h : Tab w g l) (k : Nat) (r : Row) (hk : l[k]? = some r) :
    w.cell? ⟨g, k * 3, none⟩ = some (.int .u8 r.kind) ∧ w.cell? ⟨g, k * 3 + 1, none⟩ = some (.int .i64 r.many) ∧ w.cell? ⟨g, k * 3 + 2, none⟩ = some (.int .i64 r.size) := by
  obtain ⟨h0, h1, h2⟩ := flat_get l k r hk
  unfold Tab at h
  refine ⟨?_, ?_, ?_⟩ <;> simp [World.cell?, h, h0, h1, h2]

set_option maxHeartbeats 1000000 in
theorem sum_any (g : Nat) (l : List Row) (n cap : Nat) (w : World) (h : Tab w g l) (hn : n ≤ l.length) (hl : l.length ≤ 10) (hok : ∀ r ∈ l, r.ok) :
    Calls Tryz.prog 87 #[.slice (some ⟨g, 0, none⟩) n cap] w (IntIs (sumR (l.take n)) w) := by
  go_enter Tryz.func87, Tryz.ntmps87
  go_wp2_with fail
  go_loopw [3, 8] (fun s i wr => ∃ k : Nat, k ≤ n ∧ i = .int .i64 (k : Int) ∧ s = .int .i64 (sumR (l.take k)) ∧ w.grownBy wr none) (fun _ i _ => n - (intOf i).toNat)
  case atStart => exact ⟨0, Nat.zero_le _, rfl, rfl, World.grownBy.refl _ _⟩
  case round =>
    obtain ⟨k, hk, rfl, rfl, hg⟩ := hrel
    by_cases hlt : k < n
    · have hlt' : (k : Int) < (n : Int) := by omega
      have h0 : (0 : Int) ≤ (k : Int) := by omega
      obtain ⟨r, hr⟩ : ∃ r, l[k]? = some r := ⟨_, List.getElem?_eq_getElem (by omega)⟩
      obtain ⟨c0, c1, c2⟩ := (h.keep hg).cells k r hr
      have hro := hok r (List.mem_of_getElem? hr)
      have hb1 := sumR_bd (l.take k) (fun x hx => hok x (List.mem_of_mem_take hx))
      have hb2 := all_bd r hro
      rw [List.length_take] at hb1
      have HS := Lib.hid (sumR_snoc l k r hr)
      generalize sumR (l.take k) = A at HS hb1 ⊢
      have hw : IntKind.i64.wrap (A + r.all) = A + r.all := IntWalk.i64_in _ ⟨by omega, by omega⟩
      have HW := Lib.hid (fun wx => rowWords_any r wx hro)
      clear hb1 hr
      go_wp2_with fail
      refine (HW.out _).mono ?_
      rintro e w1 ⟨rfl, hg1⟩
      have hg := grown_trans hg (grown_trans (World.grownBy_alloc wr _ none) hg1)
      clear hg1 HW
      go_wp2
      go_roundw
      case rel => exact ⟨k + 1, by omega, by go_num, by rw [HS.out], hg⟩
      case measure => simp [intOf]; omega
    · obtain rfl : k = n := by omega
      have hlt' : ¬ (k : Int) < (k : Int) := by omega
      go_wp2
      go_ret
      exact ⟨rfl, hg⟩

set_option maxHeartbeats 2000000 in
theorem start_any (g : Nat) (l : List Row) (n : Nat) (kd i : Int) (w : World) (h : Tab w g l) (hn : l.length = n) (hl : n ≤ 10) (hok : ∀ r ∈ l, r.ok) :
    Calls Tryz.prog 107 #[.slice (some ⟨g, 0, none⟩) n n, .int .u8 kd, .int .i64 i] w (IntIs (startR l kd i 0) w) := by
  have HN := Lib.hid hn
  go_enter Tryz.func107, Tryz.ntmps107
  go_wp2_with fail
  go_loopw [11] (fun c wr => ∃ k : Nat, k ≤ n ∧ c = .int .i64 (k : Int) ∧ startR l kd i 0 = startR (l.drop k) kd i (sumR (l.take k)) ∧ w.grownBy wr none) (fun c _ => n - (intOf c).toNat)
  case atStart => exact ⟨0, Nat.zero_le _, rfl, rfl, World.grownBy.refl _ _⟩
  case round =>
    obtain ⟨k, hk, rfl, hR, hg⟩ := hrel
    by_cases hlt : k < n
    · have hlt' : (k : Int) < (n : Int) := by omega
      have h0 : (0 : Int) ≤ (k : Int) := by omega
      obtain ⟨r, hr⟩ : ∃ r, l[k]? = some r := ⟨_, List.getElem?_eq_getElem (by omega)⟩
      obtain ⟨c0, c1, c2⟩ := (h.keep hg).cells k r hr
      have hro := hok r (List.mem_of_getElem? hr)
      rw [startR_drop l k r kd i _ hr] at hR
      by_cases hf : r.kind = kd ∧ 0 ≤ i ∧ i < r.many
      · rw [if_pos hf] at hR
        obtain ⟨rfl, hi0, hi1⟩ := hf
        have hb1 := sumR_bd (l.take k) (fun x hx => hok x (List.mem_of_mem_take hx))
        rw [List.length_take] at hb1
        obtain ⟨_, _, hm0, hm1, hs0, hs1⟩ := hro
        have hb2 : 0 ≤ i * r.size ∧ i * r.size ≤ 1000000 := ⟨Int.mul_nonneg hi0 (by omega), by have := Int.mul_le_mul (show i ≤ 1000 by omega) hs1 (by omega) (by omega); omega⟩
        have hSum := Lib.hid (fun wx (hx : w.grownBy wx none) => sum_any g l k n wx (h.keep hx) (by omega) (by omega) hok)
        have HR := Lib.hid hR
        generalize sumR (l.take k) = A at HR hb1 hSum
        have hw1 : IntKind.i64.wrap (i * r.size) = i * r.size := IntWalk.i64_in _ ⟨by omega, by omega⟩
        have hw2 : IntKind.i64.wrap (A + i * r.size) = A + i * r.size := IntWalk.i64_in _ ⟨by omega, by omega⟩
        have hkn : (k : Int) ≤ (n : Int) := by omega
        clear hb1 hb2 hr hR hm0 hm1 hs0 hs1
        go_wp2_with fail
        refine wp_region_held_drew (S := fun w' => w'.heap[wr.heap.size]? = some (.cells #[.int .u8 r.kind, .int .i64 r.many, .int .i64 r.size] 173 (0, 0)) ∧ w.grownBy w' none) (by kernel_rfl) (⟨heap_alloc_new wr _, grown_drew (grown_trans hg (World.grownBy_alloc wr _ none))⟩) (fun hS => ?_)
        refine wpAnyH_take (i := 0) (oi := { dst := some 30, op := Op.move (Operand.tmp 0), type := 149, pos := "layout.go:92", after := #[], guard := none }) (v := ?vr107r5o0) rfl (by kernel_rfl) (by kernel_rfl) (by kernel_rfl) (fun _ _ _ h => h) (Or.inl ⟨by rfl, ?hr107r5o0⟩) hS ?_
        case hr107r5o0 => (intro wx hx; skip; go_simp; (try with_reducible rfl))
        try simp only [Act.put, List.setIfInBounds_toArray, List.set_cons_zero, List.set_cons_succ]
        refine wpAnyH_take (i := 1) (oi := { dst := some 31, op := Op.move (Operand.tmp 7), type := 3, pos := "layout.go:92", after := #[], guard := none }) (v := ?vr107r5o1) rfl (by kernel_rfl) (by kernel_rfl) (by kernel_rfl) (fun _ _ _ h => h) (Or.inl ⟨by rfl, ?hr107r5o1⟩) hS ?_
        case hr107r5o1 => (intro wx hx; skip; go_simp; (try with_reducible rfl))
        try simp only [Act.put, List.setIfInBounds_toArray, List.set_cons_zero, List.set_cons_succ]
        refine wpAnyH_take (i := 2) (oi := { dst := some 32, op := Op.slice 149 (Operand.tmp 30) none (some (Operand.tmp 31)) none, type := 149, pos := "layout.go:92", after := #[{ on := 0, ground := Ground.data }, { on := 1, ground := Ground.data }], guard := none }) (v := ?vr107r5o2) rfl (by kernel_rfl) (by kernel_rfl) (by kernel_rfl) (fun _ _ _ h => h) (Or.inl ⟨by rfl, ?hr107r5o2⟩) hS ?_
        case hr107r5o2 => (intro wx hx; skip; go_simp; (try with_reducible rfl))
        try simp only [Act.put, List.setIfInBounds_toArray, List.set_cons_zero, List.set_cons_succ]
        refine wpAnyH_take (i := 4) (oi := { dst := some 34, op := Op.move (Operand.tmp 2), type := 3, pos := "layout.go:92", after := #[], guard := none }) (v := ?vr107r5o4) rfl (by kernel_rfl) (by kernel_rfl) (by kernel_rfl) (fun _ _ _ h => h) (Or.inl ⟨by rfl, ?hr107r5o4⟩) hS ?_
        case hr107r5o4 => (intro wx hx; skip; go_simp; (try with_reducible rfl))
        try simp only [Act.put, List.setIfInBounds_toArray, List.set_cons_zero, List.set_cons_succ]
        refine wpAnyH_take (i := 5) (oi := { dst := some 35, op := Op.fieldAddr 173 (Operand.tmp 8) 2, type := 0, pos := "layout.go:92", after := #[], guard := none }) (v := ?vr107r5o5) rfl (by kernel_rfl) (by kernel_rfl) (by kernel_rfl) (fun _ _ _ h => h) (Or.inl ⟨by rfl, ?hr107r5o5⟩) hS ?_
        case hr107r5o5 => (intro wx hx; skip; go_simp; (try with_reducible rfl))
        try simp only [Act.put, List.setIfInBounds_toArray, List.set_cons_zero, List.set_cons_succ]
        refine wpAnyH_take (i := 6) (oi := { dst := some 36, op := Op.load 3 (Operand.tmp 35), type := 3, pos := "layout.go:92", after := #[{ on := 5, ground := Ground.data }], guard := none }) (v := ?vr107r5o6) rfl (by kernel_rfl) (by kernel_rfl) (by kernel_rfl) (fun _ _ _ h => h) (Or.inl ⟨by rfl, ?hr107r5o6⟩) hS ?_
        case hr107r5o6 => (intro wx hx; have f2 : wx.cell? ⟨wr.heap.size, 2, none⟩ = some (.int .i64 r.size) := (by simp [World.cell?, hx.1]); go_simp; (try with_reducible rfl))
        try simp only [Act.put, List.setIfInBounds_toArray, List.set_cons_zero, List.set_cons_succ]
        refine wpAnyH_take (i := 7) (oi := { dst := some 37, op := Op.binOp BinOp.mul 3 (Operand.tmp 34) (Operand.tmp 36) 3, type := 3, pos := "layout.go:92", after := #[{ on := 4, ground := Ground.data }, { on := 6, ground := Ground.data }], guard := none }) (v := ?vr107r5o7) rfl (by kernel_rfl) (by kernel_rfl) (by kernel_rfl) (fun _ _ _ h => h) (Or.inl ⟨by rfl, ?hr107r5o7⟩) hS ?_
        case hr107r5o7 => (intro wx hx; skip; go_simp; (try with_reducible rfl))
        try simp only [Act.put, List.setIfInBounds_toArray, List.set_cons_zero, List.set_cons_succ]
        refine wpAnyH_ready (rs := [3]) (by kernel_rfl) (by simp) ?_
        refine AllReadyH.cons (o := { dst := some 33, op := Op.call { callee := Callee.value (Operand.func 87), args := #[Operand.tmp 32], argTypes := #[149] }, type := 3, pos := "layout.go:92", after := #[{ on := 2, ground := Ground.data }], guard := none }) rfl (fun K hK => ?_) AllReadyH.nil
        go_simp
        refine (hSum.out _ hS.2).mono ?_
        rintro e w1 ⟨rfl, hg1⟩
        have hS1 := And.intro ((hg1.block _ (lt_of_block hS.1) (by simp)).trans hS.1) (grown_trans hS.2 hg1)
        refine hK.out _ _ ?hsr107r5o3 (fun hS => ?_)
        case hsr107r5o3 => (exact hS1)
        clear hK K
        try simp only [Act.put, List.setIfInBounds_toArray, List.set_cons_zero, List.set_cons_succ]
        refine wpAnyH_take (i := 8) (oi := { dst := some 38, op := Op.binOp BinOp.add 3 (Operand.tmp 33) (Operand.tmp 37) 3, type := 3, pos := "layout.go:92", after := #[{ on := 3, ground := Ground.data }, { on := 7, ground := Ground.data }], guard := none }) (v := ?vr107r5o8) rfl (by kernel_rfl) (by kernel_rfl) (by kernel_rfl) (fun _ _ _ h => h) (Or.inl ⟨by rfl, ?hr107r5o8⟩) hS ?_
        case hr107r5o8 => (intro wx hx; skip; go_simp; (try with_reducible rfl))
        try simp only [Act.put, List.setIfInBounds_toArray, List.set_cons_zero, List.set_cons_succ]
        refine wpAnyH_take (i := 9) (oi := { dst := some 6, op := Op.assign (Operand.tmp 38), type := 3, pos := "layout.go:92", after := #[{ on := 8, ground := Ground.data }, { on := 3, ground := Ground.chain }, { on := 0, ground := Ground.phase }, { on := 1, ground := Ground.phase }, { on := 2, ground := Ground.phase }, { on := 3, ground := Ground.phase }, { on := 4, ground := Ground.phase }, { on := 5, ground := Ground.phase }, { on := 6, ground := Ground.phase }, { on := 7, ground := Ground.phase }, { on := 8, ground := Ground.phase }], guard := none }) (v := ?vr107r5o9) rfl (by kernel_rfl) (by kernel_rfl) (by kernel_rfl) (fun _ _ _ h => h) (Or.inl ⟨by rfl, ?hr107r5o9⟩) hS ?_
        case hr107r5o9 => (intro wx hx; skip; go_simp; (try with_reducible rfl))
        try simp only [Act.put, List.setIfInBounds_toArray, List.set_cons_zero, List.set_cons_succ]
        refine wpAnyH_done (by kernel_rfl) ?_ _
        go_wp2
        go_ret
        rw [HR.out]
        exact ⟨rfl, hS.2⟩
      · rw [if_neg hf, ← sumR_snoc l k r hr] at hR
        have HR := Lib.hid hR
        clear hR
        by_cases hf1 : r.kind = kd
        · subst hf1
          by_cases hf2 : 0 ≤ i
          · have hf3 : ¬ i < r.many := fun h => hf ⟨rfl, hf2, h⟩
            clear hf hr
            go_wp2
            go_roundw
            case rel => exact ⟨k + 1, by omega, by go_num, HR.out, grown_trans hg (World.grownBy_alloc wr _ none)⟩
            case measure => simp [intOf]; omega
          · clear hf hr
            have hd : decide (0 ≤ i) = false := by simpa using hf2
            go_wp2
            go_roundw
            case rel => exact ⟨k + 1, by omega, by go_num, HR.out, grown_trans hg (World.grownBy_alloc wr _ none)⟩
            case measure => simp [intOf]; omega
        · have hd : (r.kind == kd) = false := by simpa using hf1
          clear hf hr hf1
          go_wp2
          go_roundw
          case rel => exact ⟨k + 1, by omega, by go_num, HR.out, grown_trans hg (World.grownBy_alloc wr _ none)⟩
          case measure => simp [intOf]; omega
    · obtain rfl : k = n := by omega
      have hlt' : ¬ (k : Int) < (k : Int) := by omega
      have hE : IntIs (startR l kd i 0) w (.returned (.int .i64 (-1))) wr := ⟨by rw [hR, List.drop_of_length_le (by rw [HN.out]; exact Nat.le_refl _)]; rfl, hg⟩
      have HE := Lib.hid hE
      clear hR hE
      go_wp2
      go_ret
      exact HE.out

def FindIs (v : Int × Int × Int) (w : World) (e : Ending) (w' : World) : Prop := e = .returned (.tuple #[.int .u8 v.1, .int .i64 v.2.1, .int .i64 v.2.2]) ∧ w.grownBy w' none

set_option maxHeartbeats 2000000 in
theorem find_any (g : Nat) (l : List Row) (n : Nat) (x : Int) (w : World) (h : Tab w g l) (hn : l.length = n) (hl : n ≤ 10) (hok : ∀ r ∈ l, r.ok) (hx0 : 0 ≤ x) (hx1 : x ≤ 9223372036854775807) :
    Calls Tryz.prog 122 #[.slice (some ⟨g, 0, none⟩) n n, .int .i64 x] w (FindIs (findR l x) w) := by
  have HN := Lib.hid hn
  have hx2 : ¬ x < 0 := by omega
  have Hx1 := Lib.hid hx1
  clear hx1
  go_enter Tryz.func122, Tryz.ntmps122
  go_wp2_with fail
  go_loopw [1, 13] (fun y c wr => ∃ (k : Nat) (v : Int), k ≤ n ∧ c = .int .i64 (k : Int) ∧ y = .int .i64 v ∧ 0 ≤ v ∧ v ≤ x ∧ findR l x = findR (l.drop k) v ∧ w.grownBy wr none) (fun _ c _ => n - (intOf c).toNat)
  case atStart => exact ⟨0, x, Nat.zero_le _, rfl, rfl, hx0, Int.le_refl _, rfl, World.grownBy.refl _ _⟩
  case round =>
    obtain ⟨k, v, hk, rfl, rfl, hv0, hvx, hR, hg⟩ := hrel
    by_cases hlt : k < n
    · have hlt' : (k : Int) < (n : Int) := by omega
      have h0 : (0 : Int) ≤ (k : Int) := by omega
      obtain ⟨r, hr⟩ : ∃ r, l[k]? = some r := ⟨_, List.getElem?_eq_getElem (by omega)⟩
      obtain ⟨c0, c1, c2⟩ := (h.keep hg).cells k r hr
      have hro := hok r (List.mem_of_getElem? hr)
      rw [findR_drop l k r v hr] at hR
      have hb2 := all_bd r hro
      have HW := Lib.hid (fun wx => rowWords_any r wx hro)
      obtain ⟨_, _, hm0, hm1, hs0, hs1⟩ := hro
      by_cases hf : v < r.all
      · rw [if_pos hf] at hR
        have HR := Lib.hid hR
        have HX := Hx1.out
        have t1 : v.tdiv r.size = v / r.size := Int.tdiv_eq_ediv_of_nonneg hv0
        have t2 : v.tmod r.size = v % r.size := Int.tmod_eq_emod_of_nonneg hv0
        have q1 : 0 ≤ v / r.size := Int.ediv_nonneg hv0 (by omega)
        have q2 : v / r.size ≤ v := Int.ediv_le_self _ hv0
        have q3 : 0 ≤ v % r.size := Int.emod_nonneg _ (by omega)
        have q4 : v % r.size < r.size := Int.emod_lt_of_pos _ (by omega)
        have t3 : IntKind.i64.wrap (v / r.size) = v / r.size := IntWalk.i64_in _ ⟨by omega, by omega⟩
        have t4 : IntKind.i64.wrap (v % r.size) = v % r.size := IntWalk.i64_in _ ⟨by omega, by omega⟩
        have hz : (r.size == 0) = false := by simp; omega
        clear hR hr hm0 hm1 HX q1 q2 q3 q4
        go_wp2_with fail
        refine (HW.out _).mono ?_
        rintro e w1 ⟨rfl, hg1⟩
        have f : w1.heap[wr.heap.size]? = some (.cells #[.int .u8 r.kind, .int .i64 r.many, .int .i64 r.size] 173 (0, 0)) := (hg1.block _ (by simp) (by simp)).trans (heap_alloc_new wr _)
        have f0 : w1.cell? ⟨wr.heap.size, 0, none⟩ = some (.int .u8 r.kind) := by simp [World.cell?, f]
        have f2 : w1.cell? ⟨wr.heap.size, 2, none⟩ = some (.int .i64 r.size) := by simp [World.cell?, f]
        have hg := grown_trans hg (grown_trans (World.grownBy_alloc wr _ none) hg1)
        clear hg1 HW f
        go_wp2_with fail
        go_quiet (fail)
        go_wp2
        go_ret3
        rw [HR.out]
        exact ⟨rfl, grown_trans hg (grown_drewN _ _ _)⟩
      · rw [if_neg hf] at hR
        have HR := Lib.hid hR
        have HX := Hx1.out
        have t3 : IntKind.i64.wrap (v - r.all) = v - r.all := IntWalk.i64_in _ ⟨by omega, by omega⟩
        clear hR hr hm0 hm1 HX hs0 hs1
        go_wp2_with fail
        refine (HW.out _).mono ?_
        rintro e w1 ⟨rfl, hg1⟩
        have f : w1.heap[wr.heap.size]? = some (.cells #[.int .u8 r.kind, .int .i64 r.many, .int .i64 r.size] 173 (0, 0)) := (hg1.block _ (by simp) (by simp)).trans (heap_alloc_new wr _)
        have f0 : w1.cell? ⟨wr.heap.size, 0, none⟩ = some (.int .u8 r.kind) := by simp [World.cell?, f]
        have f1 : w1.cell? ⟨wr.heap.size, 1, none⟩ = some (.int .i64 r.many) := by simp [World.cell?, f]
        have f2 : w1.cell? ⟨wr.heap.size, 2, none⟩ = some (.int .i64 r.size) := by simp [World.cell?, f]
        have hg := grown_trans hg (grown_trans (World.grownBy_alloc wr _ none) hg1)
        clear hg1 f
        go_wp2_with fail
        refine (HW.out _).mono ?_
        rintro e w2 ⟨rfl, hg1⟩
        have hg := grown_trans hg hg1
        clear hg1 HW
        go_wp2
        go_roundw
        case rel => exact ⟨k + 1, v - r.all, by omega, by go_num, rfl, by omega, by omega, HR.out, hg⟩
        case measure => simp [intOf]; omega
    · obtain rfl : k = n := by omega
      have hlt' : ¬ (k : Int) < (k : Int) := by omega
      have hE : FindIs (findR l x) w (.returned (.tuple #[.int .u8 0, .int .i64 0, .int .i64 0])) wr := ⟨by rw [hR, List.drop_of_length_le (by rw [HN.out]; exact Nat.le_refl _)]; rfl, hg⟩
      have HE := Lib.hid hE
      clear hR hE
      go_wp2
      go_ret3
      exact HE.out
end Go.Proofs.YtpdofdloclmbdaaGreat
end
section
/- Package layout: the places. -/
-- OPTIONAL
namespace Go.Proofs.YtpdofdloclmbdaaGreat
open Go.RowKit Go.Grommet

def placeV (a b c k i : Int) : Int := if mayB a b c = true then startR (placesR a b c) k i 0 else -1

set_option maxHeartbeats 1000000 in
theorem Words_any (a b c : Int) (w : World) : Calls Tryz.prog 36 #[gv a b c] w (IntIs (wordsV a b c) w) := by
  have HM := Lib.hid (fun wx => May_any a b c wx)
  have HP := Lib.hid (fun wx => places_any a b c wx)
  unfold gv at HM HP ⊢
  by_cases h : mayB a b c = true
  · rw [h] at HM
    have HS := Lib.hid (fun g wx (ht : Tab wx g (placesR a b c)) => sum_any g (placesR a b c) 7 7 wx ht (Nat.le_refl _) (show (7 : Nat) ≤ 10 by decide) (places_ok h))
    have e : wordsV a b c = sumR ((placesR a b c).take 7) := by unfold wordsV; rw [if_pos h]; exact (sum_places a b c).symm
    rw [e]
    clear h e
    go_enter Tryz.func36, Tryz.ntmps36
    go_wp2_with fail
    refine (HM.out _).mono ?_
    rintro e w1 ⟨rfl, hg1⟩
    have hb : w1.heap[w.heap.size]? = some (.cells #[.int .i64 a, .int .i64 b, .int .i64 c] 26 (0, 0)) := (hg1.block _ (by simp) (by simp)).trans (heap_alloc_new w _)
    have f0 : w1.cell? ⟨w.heap.size, 0, none⟩ = some (.int .i64 a) := by simp [World.cell?, hb]
    have f1 : w1.cell? ⟨w.heap.size, 1, none⟩ = some (.int .i64 b) := by simp [World.cell?, hb]
    have f2 : w1.cell? ⟨w.heap.size, 2, none⟩ = some (.int .i64 c) := by simp [World.cell?, hb]
    have hg := grown_trans (World.grownBy_alloc w _ none) hg1
    clear hg1 hb HM
    go_wp2_with fail
    refine (HP.out _).mono ?_
    rintro e w2 ⟨g, rfl, ht, hg2⟩
    have hg := grown_trans hg hg2
    clear hg2 HP
    go_wp2_with fail
    refine (HS.out g _ ht).mono ?_
    rintro e w3 ⟨rfl, hg3⟩
    have hg := grown_trans hg hg3
    go_wp2
    go_ret
    exact ⟨rfl, hg⟩
  · have h' : mayB a b c = false := by simpa using h
    rw [h'] at HM
    have e : wordsV a b c = 0 := by unfold wordsV; rw [if_neg h]
    rw [e]
    clear h e HP
    go_enter Tryz.func36, Tryz.ntmps36
    go_wp2_with fail
    refine (HM.out _).mono ?_
    rintro e w1 ⟨rfl, hg1⟩
    have hg := grown_trans (World.grownBy_alloc w _ none) hg1
    go_wp2
    go_ret
    exact ⟨rfl, hg⟩

set_option maxHeartbeats 1000000 in
theorem place_any (a b c k i : Int) (w : World) : Calls Tryz.prog 89 #[gv a b c, .int .u8 k, .int .i64 i] w (IntIs (placeV a b c k i) w) := by
  have HM := Lib.hid (fun wx => May_any a b c wx)
  have HP := Lib.hid (fun wx => places_any a b c wx)
  unfold gv at HM HP ⊢
  by_cases h : mayB a b c = true
  · rw [h] at HM
    have HS := Lib.hid (fun g wx (ht : Tab wx g (placesR a b c)) => start_any g (placesR a b c) 7 k i wx ht rfl (by decide) (places_ok h))
    have e : placeV a b c k i = startR (placesR a b c) k i 0 := by unfold placeV; rw [if_pos h]
    rw [e]
    clear h e
    go_enter Tryz.func89, Tryz.ntmps89
    go_wp2_with fail
    refine (HM.out _).mono ?_
    rintro e w1 ⟨rfl, hg1⟩
    have hb : w1.heap[w.heap.size]? = some (.cells #[.int .i64 a, .int .i64 b, .int .i64 c] 26 (0, 0)) := (hg1.block _ (by simp) (by simp)).trans (heap_alloc_new w _)
    have f0 : w1.cell? ⟨w.heap.size, 0, none⟩ = some (.int .i64 a) := by simp [World.cell?, hb]
    have f1 : w1.cell? ⟨w.heap.size, 1, none⟩ = some (.int .i64 b) := by simp [World.cell?, hb]
    have f2 : w1.cell? ⟨w.heap.size, 2, none⟩ = some (.int .i64 c) := by simp [World.cell?, hb]
    have hg := grown_trans (World.grownBy_alloc w _ none) hg1
    clear hg1 hb HM
    go_wp2_with fail
    refine (HP.out _).mono ?_
    rintro e w2 ⟨g, rfl, ht, hg2⟩
    have hg := grown_trans hg hg2
    clear hg2 HP
    go_wp2_with fail
    refine (HS.out g _ ht).mono ?_
    rintro e w3 ⟨rfl, hg3⟩
    have hg := grown_trans hg hg3
    go_wp2
    go_ret
    exact ⟨rfl, hg⟩
  · have h' : mayB a b c = false := by simpa using h
    rw [h'] at HM
    have e : placeV a b c k i = -1 := by unfold placeV; rw [if_neg h]
    rw [e]
    clear h e HP
    go_enter Tryz.func89, Tryz.ntmps89
    go_wp2_with fail
    refine (HM.out _).mono ?_
    rintro e w1 ⟨rfl, hg1⟩
    have hg := grown_trans (World.grownBy_alloc w _ none) hg1
    go_wp2
    go_ret
    exact ⟨rfl, hg⟩

set_option maxHeartbeats 1000000 in
theorem AreaAt_any (a b c i : Int) (w : World) : Calls Tryz.prog 42 #[gv a b c, .int .i64 i] w (IntIs (areaV a b c i) w) := by
  have H := Lib.hid (fun wx => place_any a b c 5 i wx)
  have e : placeV a b c 5 i = areaV a b c i := by
    unfold placeV areaV
    rw [start_area]
    try (by_cases h : mayB a b c = true <;> simp [h])
  rw [e] at H
  unfold gv at H ⊢
  clear e
  go_enter Tryz.func42, Tryz.ntmps42
  go_wp2_with fail
  refine (H.out _).mono ?_
  rintro e w1 ⟨rfl, hg1⟩
  go_wp2
  go_ret
  exact ⟨rfl, grown_trans (World.grownBy_alloc w _ none) hg1⟩

set_option maxHeartbeats 1000000 in
theorem BlockAt_any (a b c i : Int) (w : World) : Calls Tryz.prog 45 #[gv a b c, .int .i64 i] w (IntIs (blockV a b c i) w) := by
  have H := Lib.hid (fun wx => place_any a b c 9 i wx)
  have e : placeV a b c 9 i = blockV a b c i := by
    unfold placeV blockV
    rw [start_block]
    try (by_cases h : mayB a b c = true <;> simp [h])
  rw [e] at H
  unfold gv at H ⊢
  clear e
  go_enter Tryz.func45, Tryz.ntmps45
  go_wp2_with fail
  refine (H.out _).mono ?_
  rintro e w1 ⟨rfl, hg1⟩
  go_wp2
  go_ret
  exact ⟨rfl, grown_trans (World.grownBy_alloc w _ none) hg1⟩
end Go.Proofs.YtpdofdloclmbdaaGreat
end
