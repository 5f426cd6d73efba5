/- LockApart: the table, the law's own array, its four rows. -/
import Derived.Test.YtclicjdgkcnihaaLocI
import Derived.Test.YtclicjdgkcnihaaLocJ
namespace Go.Proofs.Ytclicjdgkcnihaa
open Go.RowKit Go.Grommet

def sv (hl : Nat → List Nat) (ad : Nat → Option Addr) (cp : Nat → Nat) (a : Nat) : Value := .slice (ad a) (hl a).length (cp a)
def rowW (hl : Nat → List Nat) (ad : Nat → Option Addr) (cp : Nat → Nat) (a : Nat) : Pr := rowP 3 1 (sv hl ad cp a) (hl a).length ((hl a).map iv)
def arrC (hl : Nat → List Nat) (ad : Nat → Option Addr) (cp : Nat → Nat) : Array Value := #[sv hl ad cp 0, sv hl ad cp 1, sv hl ad cp 2, sv hl ad cp 3]
/-- A table of four workers, an array of four rows. -/
def LS (X H : Nat) (f : Nat → Int) (hl : Nat → List Nat) (ad : Nat → Option Addr) (cp : Nat → Nat) : List Pr :=
  [tabP X 4 f, boxP H 42 (arrC hl ad cp), rowW hl ad cp 0, rowW hl ad cp 1, rowW hl ad cp 2, rowW hl ad cp 3]
def put' {α : Type} (g : Nat → α) (a : Nat) (v : α) : Nat → α := fun i => if i = a then v else g i
theorem four {a : Nat} (h : a < 4) : a = 0 ∨ a = 1 ∨ a = 2 ∨ a = 3 := by omega
theorem LS_row (X H : Nat) (f : Nat → Int) (hl : Nat → List Nat) (ad : Nat → Option Addr) (cp : Nat → Nat) {a : Nat} (ha : a < 4) : (LS X H f hl ad cp)[2 + a]? = some (rowW hl ad cp a) := by
  rcases four ha with rfl | rfl | rfl | rfl <;> rfl
theorem arrC_get (hl : Nat → List Nat) (ad : Nat → Option Addr) (cp : Nat → Nat) {a : Nat} (ha : a < 4) : (arrC hl ad cp)[a]? = some (sv hl ad cp a) := by
  rcases four ha with rfl | rfl | rfl | rfl <;> rfl
theorem LS_put (X H : Nat) (f : Nat → Int) (hl : Nat → List Nat) (ad : Nat → Option Addr) (cp : Nat → Nat) {a : Nat} (ha : a < 4) (l : List Nat) (d : Option Addr) (c : Nat) :
    ((LS X H f hl ad cp).set (2 + a) (rowP 3 1 (.slice d l.length c) l.length (l.map iv))).set 1 (boxP H 42 ((arrC hl ad cp).setIfInBounds a (.slice d l.length c))) = LS X H f (put' hl a l) (put' ad a d) (put' cp a c) := by
  rcases four ha with rfl | rfl | rfl | rfl <;> rfl
theorem LS_congr (X H : Nat) (f : Nat → Int) (hl hl' : Nat → List Nat) (ad : Nat → Option Addr) (cp : Nat → Nat) (h : ∀ a, a < 4 → hl a = hl' a) : LS X H f hl ad cp = LS X H f hl' ad cp := by
  unfold LS rowW arrC sv
  rw [h 0 (by decide), h 1 (by decide), h 2 (by decide), h 3 (by decide)]
theorem LS_len (X H : Nat) (f : Nat → Int) (hl : Nat → List Nat) (ad : Nat → Option Addr) (cp : Nat → Nat) : (LS X H f hl ad cp).length = 6 := rfl

/-- The cell of the law's array that holds a row. -/
theorem own_arr {w0 w : World} {Ps : List Pr} {H : Nat} {hl : Nat → List Nat} {ad : Nat → Option Addr} {cp : Nat → Nat} (h : Grommet.Own w0 w Ps) (hk : Ps[1]? = some (boxP H 42 (arrC hl ad cp))) {a : Nat} (ha : a < 4) :
    w.cell? ⟨H, a, none⟩ = some (.slice (ad a) (hl a).length (cp a)) := by
  have hb := h.box 1 hk
  have := arrC_get hl ad cp ha
  simp [World.cell?, hb, this]; rfl
theorem own_thaw {w0 w : World} {Ps : List Pr} {H a : Nat} {T : TypeId} {cs : Array Value} (h : Grommet.Own w0 w Ps) (hk : Ps[1]? = some (boxP H T cs)) : w.frozen? ⟨H, a, none⟩ = false := by
  have hb := h.box 1 hk
  simp [World.frozen?, hb]
theorem heldL_nobody (a : Nat) : heldL (fun _ => -1) a 70 = [] := by
  refine List.eq_nil_iff_forall_not_mem.2 (fun i hi => ?_)
  obtain ⟨_, h2⟩ := mem_heldL.1 hi
  omega
theorem fairT_nobody : FairT (fun _ => -1) := fun _ _ => .inl rfl
/-- As it begins. -/
theorem own_begun {w0 w : World} {X H : Nat} (h : Grommet.Own w0 w [tabP X 4 (fun _ => -1), boxP H 42 #[.slice none 0 0, .slice none 0 0, .slice none 0 0, .slice none 0 0]]) :
    Grommet.Own w0 w (LS X H (fun _ => -1) (fun a => heldL (fun _ => -1) a 70) (fun _ => none) (fun _ => 0)) := by
  rw [LS_congr _ _ _ _ (fun _ => []) _ _ (fun a _ => heldL_nobody a)]
  exact own_nilRow (own_nilRow (own_nilRow (own_nilRow h 3 1) 3 1) 3 1) 3 1

/-- A lock is taken, the row grown, and stored. -/
theorem own_took {w0 w5 : World} {X H : Nat} {f : Nat → Int} {ad : Nat → Option Addr} {cp : Nat → Nat} {k a : Nat} (ha : a < 4) (h70 : k < 70) (hf : f k = -1) (hl : highV (heldL f a 70) < (k : Int)) (n : Nat) (d : Option Addr) (c : Nat)
    (hn : (heldL f a 70).length = n)
    (h : Grommet.Own w0 w5 ((LS X H (seth f k (a : Int)) (fun b => heldL f b 70) ad cp).set (2 + a) (rowP 3 1 (.slice d (n + 1) c) (n + 1) ((heldL f a 70).map iv ++ [.int .i64 (k : Int)])))) :
    Grommet.Own w0 (w5.setCell ⟨H, a, none⟩ (.slice d (n + 1) c)) (LS X H (seth f k (a : Int)) (fun b => heldL (seth f k (a : Int)) b 70) (put' ad a d) (put' cp a c)) := by
  have e := own_store_box h 1 (X := H) (T := 42) (cs := arrC (fun b => heldL f b 70) ad cp) (by rw [List.getElem?_set_ne (by omega)]; rfl) a (.slice d (n + 1) c)
  have hL := heldL_take h70 hf hl
  have hlen : (heldL (seth f k (a : Int)) a 70).length = n + 1 := by rw [hL, List.length_append, hn]; rfl
  have hm : (heldL f a 70).map iv ++ [.int .i64 (k : Int)] = (heldL (seth f k (a : Int)) a 70).map iv := by rw [hL, List.map_append]; rfl
  rw [hm, ← hlen, LS_put X H _ _ ad cp ha, LS_congr _ _ _ _ (fun b => heldL (seth f k (a : Int)) b 70)] at e
  · rw [← hlen]; exact e
  · intro b _
    unfold put'
    by_cases hb : b = a
    · rw [if_pos hb, hb]
    · rw [if_neg hb, heldL_other hb hf]
end Go.Proofs.Ytclicjdgkcnihaa
