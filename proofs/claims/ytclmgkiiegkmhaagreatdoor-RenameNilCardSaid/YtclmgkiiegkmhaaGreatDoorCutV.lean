/- A view in a heap by names, beside a table: its words, its writes; calls from one such to the next. -/
import Derived.Test.YtclmgkiiegkmhaaGreatDoorCvH
import Derived.Test.YtclmgkiiegkmhaaGreatDoorEvX
namespace Go.Ev

/-- Its names are below a number; no slice of unknown room. -/
def inB (N : Nat) : V → Bool
  | .ptr n _ => Nat.blt n N
  | .slice n _ _ _ ex => Nat.blt n N && ex
  | .map n => Nat.blt n N
  | .cons a b => inB N a && inB N b
  | .agg a => inB N a
  | .tup a => inB N a
  | .tail _ _ _ _ => false
  | .fn _ _ _ => false
  | .yield _ => false
  | _ => true
theorem inB_ok {N : Nat} {ρ : Nat → Loc} : ∀ {v : V}, inB N v = true → v.In (fun n => n < N) ρ := by
  intro v
  induction v with
  | ptr n o => intro h; exact (show n < N by simpa [inB] using h)
  | map n => intro h; exact (show n < N by simpa [inB] using h)
  | slice n o l c ex =>
    intro h
    have h' : (Nat.blt n N && ex) = true := h
    rw [Bool.and_eq_true] at h'
    exact ⟨by simpa using h'.1, fun e => by rw [h'.2] at e; cases e⟩
  | cons a b ia ib =>
    intro h
    have h' : (inB N a && inB N b) = true := h
    rw [Bool.and_eq_true] at h'
    exact ⟨ia h'.1, ib h'.2⟩
  | agg a ih => intro h; exact ih h
  | tup a ih => intro h; exact ih h
  | tail _ _ _ _ => intro h; cases h
  | fn _ _ _ => intro h; cases h
  | yield _ => intro h; cases h
  | _ => intro _; trivial
theorem inBs_ok {N : Nat} {l : List V} (h : l.all (inB N) = true) (ρ : Nat → Loc) : ∀ a ∈ l, a.In (fun n => n < N) ρ := fun a ha => inB_ok (List.all_eq_true.1 h a ha)
def natV (p : Nat × Nat) : V := .int .u64 (p.2 : Int)
def treeW : T V → List (Nat × Nat) → T V
  | t, [] => t
  | t, p :: l => treeW (t.set p.1 (natV p)) l
/-- Words, noughts but for some. -/
def wordsOb (n : Nat) (W : List (Nat × Nat)) (g : Nat) : Ob := .cells n (treeW .lf W) (fun _ => some (.int .u64 0)) g false
def flatL : List (Nat × Nat) → List V
  | [] => []
  | p :: l => .int .i64 (p.1 : Int) :: natV p :: flatL l
def numsL : Nat → List (Nat × Nat) → List (V × V)
  | _, [] => []
  | i, p :: l => (.int .i64 (p.1 : Int), .int .i64 (i : Int)) :: numsL (i + 1) l
/-- A heap of a table and a row of words. -/
def rowK (zs : List Int) (n : Nat) (W : List (Nat × Nat)) (g : Nat) : Hp := (tabHp zs).push (wordsOb n W g)
/-- A heap of a table (0), a view (1), its words (2), the map of its writes (3), these (4). -/
def viewK (zs : List Int) (n : Nat) (W L : List (Nat × Nat)) : Hp :=
  let H := (((tabHp zs).push (newCells [.slice 2 0 n 0 false, (match L with | [] => .nilslice | _ => .slice 4 0 L.length 0 false), .map 3] 0)).push (wordsOb n W 1)).push (.map (numsL 0 L))
  match L with
  | [] => H
  | _ => H.push (newCells (flatL L) 2)
def slName : Option V → Nat
  | some (.slice n _ _ _ _) => n
  | some (.map n) => n
  | some (.ptr n _) => n
  | _ => 0
/-- The names behind a call: of no view, of words that are made, of a view that is made, of the view. -/
def rnNil (_ : V) (_ : Hp) : List Nat := [0]
def rnRow (u : V) (_ : Hp) : List Nat := [0, slName (some u)]
def rnNew (u : V) (H : Hp) : List Nat := [0, slName (some u), slName (H.cell (slName (some u)) 0), slName (H.cell (slName (some u)) 2), slName (H.cell (slName (some u)) 1)]
def rnView (_ : V) (H : Hp) : List Nat := [0, 1, 2, 3, slName (H.cell 1 1)]
section
variable {P : Program} {q : Nat → QC} {w0 : World}
/-- Such a view stands at B, O. -/
def LivesV (g : Nat) (w0 : World) (B O : Nat) (K : Hp) (w : World) : Prop := ∃ ρ : Nat → Loc, (ρ 1).blk = B ∧ (ρ 1).base + 0 = O ∧ Lives (tabGl g) w0 ρ K w
theorem LivesV.quiet {g B O : Nat} {K : Hp} {w w' : World} (h : LivesV g w0 B O K w) (hg : w.grownBy w' none) : LivesV g w0 B O K w' := by
  obtain ⟨ρ, h1, h2, h3⟩ := h
  exact ⟨ρ, h1, h2, h3.quiet hg⟩
theorem LivesV.grown {g B O : Nat} {K : Hp} {w : World} (h : LivesV g w0 B O K w) : w0.grownBy w none := by
  obtain ⟨ρ, h1, h2, h3⟩ := h
  exact h3.grown
theorem gl_ok {g : Nat} {rn : V → Hp → List Nat} {K : Hp} (hl : ∀ u H, ren (rn u H) 0 = 0) (hK : 0 < K.next) : ∀ k m, tabGl g k = some m → m < K.next ∧ ∀ u H, ren (rn u H) m = m := by
  intro k m h
  unfold tabGl at h
  split at h
  · cases h
    exact ⟨hK, hl⟩
  · cases h
/-- A call that leaves the view where it stands. -/
theorem step_view (hm : P.follows .mixedOrders = true) (hq : Told P q) {n g : Nat} {f : FuncId} (ht : tellable P f = true) {args : List V} {K1 K2 : Hp} {v : V}
    (h : stepR ((evQ P (tabGl g) q n).call f args K1) rnView v K2 = true) (hK : 0 < K2.next) (hK1 : 1 < K1.next) (ha : ∀ ρ : Nat → Loc, ∀ a ∈ args, a.In (fun n => n < K1.next) ρ) {B O : Nat} {ma : Array Value} {mv : Value}
    (hma : ∀ ρ : Nat → Loc, (ρ 1).blk = B → (ρ 1).base + 0 = O → (args.map (V.val ρ)).toArray = ma) (hmv : ∀ ρ : Nat → Loc, v.val ρ = mv) {w : World} (hR : LivesV g w0 B O K1 w) :
    Calls P f ma w fun e w' => e = .returned mv ∧ LivesV g w0 B O K2 w' := by
  obtain ⟨ρ, h1, h2, h3⟩ := hR
  rw [← hma ρ h1 h2]
  refine (step_lives hm hq ht h (gl_ok (fun _ _ => rfl) hK) h3 (ha ρ)).mono ?_
  rintro e w' ⟨ρ', rfl, hL, _, hk⟩
  have e1 := hk 1 hK1 (fun _ _ => rfl)
  exact ⟨by rw [hmv], ρ', by rw [e1]; exact h1, by rw [e1]; exact h2, hL⟩
/-- Words that are made. -/
theorem step_row (hm : P.follows .mixedOrders = true) (hq : Told P q) {n g : Nat} {f : FuncId} (ht : tellable P f = true) {args : List V} {K1 K2 : Hp} {v : V} {rn : V → Hp → List Nat} (hl : ∀ u H, ren (rn u H) 0 = 0)
    (h : stepR ((evQ P (tabGl g) q n).call f args K1) rn v K2 = true) (hK : 0 < K2.next) {ρ : Nat → Loc} (ha : ∀ a ∈ args, a.In (fun n => n < K1.next) ρ) {w : World} (hR : Lives (tabGl g) w0 ρ K1 w) :
    Calls P f (args.map (V.val ρ)).toArray w fun e w' => ∃ ρ', e = .returned (v.val ρ') ∧ Lives (tabGl g) w0 ρ' K2 w' ∧ v.In (fun n => n < K2.next) ρ' :=
  (step_lives hm hq ht h (gl_ok hl hK) hR ha).mono fun _ _ ⟨ρ', a, b, c, _⟩ => ⟨ρ', a, b, c⟩
theorem Lives.tab {w : World} {name : String} {zs : List Int} {g : Nat} (hg : P.globalNamed name = some g) (h : Lib.TabIs P w name .u8 zs) : Lives (tabGl g) w (fun _ => ⟨g, 0, 0⟩) (tabHp zs) w := by
  have hr := Rel.tab hg h
  refine ⟨hr.grown, fun n hn => hn, fun n o hn ho => ?_, fun n m o p hn hm hne => ?_, fun k n hk => ?_⟩
  · have hn' : n < 1 := hn
    obtain rfl : n = 0 := by omega
    exact (hr.ob 0 o rfl ho).keep (fun m hm => by subst hm; exact ⟨Nat.zero_lt_one, rfl⟩) rfl (fun _ => rfl)
  · have hn' : n < 1 := hn
    have hm' : m < 1 := hm
    omega
  · obtain ⟨h1, h2⟩ := hr.gl k n hk
    subst h1
    exact ⟨Nat.zero_lt_one, h2⟩
end
end Go.Ev
