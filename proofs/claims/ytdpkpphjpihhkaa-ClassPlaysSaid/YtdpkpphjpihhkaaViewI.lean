/- Views side by side with other things. -/
import Derived.Test.YtdpkpphjpihhkaaViewH
import Derived.Test.YtdpkpphjpihhkaaHeap
-- OPTIONAL
namespace Go.Proofs.Ytdpkpphjpihhkaa
open Go.RowKit Go.Grommet

def viewP (g : Nat) (xs : List Nat) (L : List (Nat × Nat)) : Pr where
  holds w F := ViewIs w g F xs L
  turn := ViewIs.turn
  old := fun h => by obtain ⟨_, _, _, h⟩ := h; exact h.old
def refP (g : Nat) (xs : List Nat) (L : List (Nat × Nat)) (b : Bool) : Pr where
  holds w F := RefIs w g F xs L b
  turn := RefIs.turn
  old := fun h => by obtain ⟨_, _, h⟩ := h; exact h.old

set_option maxRecDepth 100000 in
theorem NewH (ad : Option Addr) (l c : Nat) (xs : List Nat) (w0 w : World) (Ps : List Pr) (h : Own w0 w Ps) (hx : Words w ad l xs) (hl : l ≤ 549755813888) (hnil : ad = none → l = 0 ∧ c = 0) :
    Calls Try.prog 11 #[.slice ad l c] w fun e w' => ∃ g, e = .returned (.pointer (some ⟨g, 0, none⟩)) ∧ Own w0 w' (Ps ++ [viewP g xs []]) := by
  refine (New_any ad l c xs w hx hl hnil).mono ?_
  rintro e w' ⟨g, F, he, hv, hF, hg⟩
  exact ⟨g, he, h.add (P := viewP g xs []) hv hF hg⟩
set_option maxRecDepth 100000 in
theorem PutH (k g : Nat) (xs : List Nat) (L : List (Nat × Nat)) (a : Int) (v : Nat) (en : Int) (w0 w : World) (Ps Qs : List Pr) (h : Own w0 w Ps) (hk : Ps[k]? = some (viewP g xs L)) (hv : v < 18446744073709551616)
    (he : (putEI xs L a : Int) = en) (hQ : Ps.set k (viewP g xs (putI xs L a v)) = Qs) :
    Calls Try.prog 33 #[.pointer (some ⟨g, 0, none⟩), .int .i64 a, .int .u64 (v : Int)] w fun e w' => e = .returned (.int .i64 en) ∧ Own w0 w' Qs := by
  obtain ⟨F, h1, h2⟩ := h.take k hk
  refine (Put_any g F xs L a v w h1 hv).mono ?_
  rintro e w' ⟨rfl, hd⟩
  subst he
  subst hQ
  exact ⟨rfl, h2 w' _ hd⟩
set_option maxRecDepth 100000 in
theorem DropH (k g : Nat) (xs : List Nat) (L : List (Nat × Nat)) (w0 w : World) (Ps Qs : List Pr) (h : Own w0 w Ps) (hk : Ps[k]? = some (viewP g xs L)) (hQ : Ps.set k (viewP g xs []) = Qs) :
    Calls Try.prog 13 #[.pointer (some ⟨g, 0, none⟩)] w fun e w' => e = .returned (.tuple #[]) ∧ Own w0 w' Qs := by
  obtain ⟨F, h1, h2⟩ := h.take k hk
  refine (Drop_any g F xs L w h1).mono ?_
  rintro e w' ⟨rfl, hd⟩
  subst hQ
  exact ⟨rfl, h2 w' _ hd⟩
set_option maxRecDepth 100000 in
theorem GetH (k g : Nat) (xs : List Nat) (L : List (Nat × Nat)) (a : Int) (w0 w : World) (Ps : List Pr) (h : Own w0 w Ps) (hk : Ps[k]? = some (viewP g xs L)) :
    Calls Try.prog 66 #[.pointer (some ⟨g, 0, none⟩), .int .i64 a] w fun e w' => e = .returned (.int .u64 (gotI xs L a : Int)) ∧ w' = w := by
  obtain ⟨F, h1⟩ := h.get k hk
  exact (Get_any g F xs L a w h1).mono fun _ _ h => ⟨h.1, h.2.symm⟩
set_option maxRecDepth 100000 in
theorem LenH (k g : Nat) (xs : List Nat) (L : List (Nat × Nat)) (w0 w : World) (Ps : List Pr) (h : Own w0 w Ps) (hk : Ps[k]? = some (viewP g xs L)) :
    Calls Try.prog 64 #[.pointer (some ⟨g, 0, none⟩)] w fun e w' => e = .returned (.int .i64 (xs.length : Int)) ∧ w' = w := by
  obtain ⟨F, h1⟩ := h.get k hk
  exact (Len_any g F xs L w h1).mono fun _ _ h => ⟨h.1, h.2.symm⟩
set_option maxRecDepth 100000 in
theorem WritesH (k g : Nat) (xs : List Nat) (L : List (Nat × Nat)) (w0 w : World) (Ps : List Pr) (h : Own w0 w Ps) (hk : Ps[k]? = some (viewP g xs L)) :
    Calls Try.prog 24 #[.pointer (some ⟨g, 0, none⟩)] w fun e w' => ∃ ad cap, e = .returned (.slice ad L.length cap) ∧ Own w0 w' (Ps ++ [rowP 79 2 (.slice ad L.length cap) L.length (wcells L)]) := by
  obtain ⟨F, h1⟩ := h.get k hk
  refine (Writes_any g F xs L w h1 w.heap.size (Nat.le_refl _)).mono ?_
  rintro e w' ⟨ad, cap, he, hr, hg⟩
  exact ⟨ad, cap, he, h.addRow hr hg⟩
set_option maxRecDepth 100000 in
theorem FlatH (k g : Nat) (xs : List Nat) (L : List (Nat × Nat)) (w0 w : World) (Ps : List Pr) (h : Own w0 w Ps) (hk : Ps[k]? = some (viewP g xs L)) :
    Calls Try.prog 28 #[.pointer (some ⟨g, 0, none⟩)] w fun e w' => ∃ ad cap, e = .returned (.slice ad xs.length cap) ∧ Own w0 w' (Ps ++ [rowP 36 1 (.slice ad xs.length cap) xs.length ((flatV xs L).map wv)]) := by
  obtain ⟨F, h1⟩ := h.get k hk
  refine (Flat_any g F xs L w h1 w.heap.size (Nat.le_refl _)).mono ?_
  rintro e w' ⟨ad, cap, he, hr, hg⟩
  rw [flatV_length] at he hr
  exact ⟨ad, cap, he, h.addRow hr hg⟩
set_option maxRecDepth 100000 in
theorem Own.wl {w0 w : World} {Ps : List Pr} (h : Own w0 w Ps) (k : Nat) {g : Nat} {xs : List Nat} {L : List (Nat × Nat)} (hk : Ps[k]? = some (viewP g xs L)) : Wl xs.length L ∧ (∀ n ∈ xs, n < 18446744073709551616) ∧ xs.length ≤ 549755813888 := by
  obtain ⟨F, ⟨ws, wr, mb, h1⟩⟩ := h.get k hk
  exact ⟨h1.good, h1.small, h1.fits⟩
/-- A row of words that is owned, as words. -/
theorem Own.words {w0 w : World} {Ps : List Pr} (h : Own w0 w Ps) (k : Nat) {ad : Option Addr} {n cap : Nat} {ys : List Nat} (hk : Ps[k]? = some (rowP 36 1 (.slice ad n cap) n (ys.map wv))) (hs : ∀ n ∈ ys, n < 18446744073709551616) (hf : n ≤ 549755813888) :
    Words w ad n ys ∧ (ad = none → n = 0 ∧ cap = 0) ∧ n ≤ cap := by
  have hr := h.row k hk
  have hl := hr.1
  obtain ⟨ad', cap', he, hat, hnil, hc⟩ := row_slice hr
  cases he
  exact ⟨⟨by simpa using hl, hs, hat, by omega⟩, hnil, hc⟩
set_option maxRecDepth 100000 in
theorem Own.pairs {w0 w : World} {Ps : List Pr} (h : Own w0 w Ps) (k : Nat) {ad : Option Addr} {n cap : Nat} {L : List (Nat × Nat)} (hk : Ps[k]? = some (rowP 79 2 (.slice ad n cap) n (wcells L))) :
    At w ad (wcells L) ∧ L.length = n ∧ (ad = none → n = 0 ∧ cap = 0) ∧ n ≤ cap := by
  have hr := h.row k hk
  have hl := hr.1
  rw [wcells_length] at hl
  obtain ⟨ad', cap', he, hat, hnil, hc⟩ := row_slice hr
  cases he
  exact ⟨hat, by omega, hnil, hc⟩
/-- A word of such a row. -/
theorem Own.word {w0 w : World} {Ps : List Pr} (h : Own w0 w Ps) (k : Nat) {ad : Option Addr} {n cap : Nat} {ys : List Nat} (hk : Ps[k]? = some (rowP 36 1 (.slice ad n cap) n (ys.map wv))) (hy : ys.length = n) (i : Nat) (hi : i < n) :
    ∃ b, ad = some ⟨b, 0, none⟩ ∧ w.cell? ⟨b, i, none⟩ = some (.int .u64 ((ys.getD i 0 : Nat) : Int)) ∧ w.frozen? ⟨b, i, none⟩ = false ∧ n ≤ cap := by
  obtain ⟨b, h1, h2, h3, h4, _⟩ := wd_cell (h.row k hk) hy i hi
  exact ⟨b, h1, h2, h3, h4⟩

/-- What a list of steps puts. -/
def runP (xs : List Nat) (S : List (Int × Nat)) : List (Nat × Nat) := S.foldl (fun L s => putI xs L s.1 s.2) []
set_option maxRecDepth 100000 in
theorem runP_snoc (xs : List Nat) (S : List (Int × Nat)) (s : Int × Nat) : runP xs (S ++ [s]) = putI xs (runP xs S) s.1 s.2 := by unfold runP; rw [List.foldl_append]; rfl
set_option maxRecDepth 100000 in
theorem putI_length (xs : List Nat) (L : List (Nat × Nat)) (a : Int) (v : Nat) : (putI xs L a v).length ≤ L.length + 1 := by
  unfold putI putL
  split
  · split
    · simp
    · split
      · omega
      · simp
  · omega
set_option maxRecDepth 100000 in
theorem foldl_putI_length (xs : List Nat) (S : List (Int × Nat)) : ∀ L : List (Nat × Nat), (S.foldl (fun L s => putI xs L s.1 s.2) L).length ≤ L.length + S.length := by
  induction S with
  | nil => intro L; simp
  | cons s t ih =>
    intro L
    rw [List.foldl_cons, List.length_cons]
    have := ih (putI xs L s.1 s.2)
    have := putI_length xs L s.1 s.2
    omega
set_option maxRecDepth 100000 in
theorem runP_length (xs : List Nat) (S : List (Int × Nat)) : (runP xs S).length ≤ S.length := by
  have := foldl_putI_length xs S []
  simpa [runP] using this
end Go.Proofs.Ytdpkpphjpihhkaa
