/- What turns memory: as the model does it (2). -/
import Derived.Test.YtmoddhfemejekaaEvK
namespace Go.Ev

section
variable {P : Program} {gl : Nat → Option Nat} {w0 w : World} {D : Nat → Prop} {ρ : Nat → Loc} {H : Hp}
/-- What an operation that turns memory comes to. -/
def Does (gl : Nat → Option Nat) (w0 : World) (D : Nat → Prop) (ρ : Nat → Loc) (H : Hp) (v : V) (H' : Hp) (r : Result Next) : Prop :=
  ∃ D' ρ' w' x, r = .ok x w' ∧ (x = .value (v.val ρ') ∨ x = .skip ∧ v = .undef) ∧ Nx D ρ H D' ρ' H' ∧ Rel gl w0 D' ρ' H' w' ∧ v.In D' ρ'

theorem modify_map (f : MapEntry → MapEntry) (ents : Array MapEntry) (i : Nat) : (ents.modify i f).toList = ents.toList.modify i f := by simp
theorem map_set_keys {α β : Type} (g : α → β) : ∀ (l : List α) (i : Nat) (f : α → α) (b : β), (∀ a, l[i]? = some a → g (f a) = b) → (l.modify i f).map g = (l.map g).set i b
  | [], i, f, b, _ => by simp
  | a :: l, 0, f, b, h => by simp [h a rfl]
  | a :: l, i + 1, f, b, h => by simpa using map_set_keys g l i f b (fun x hx => h x (by simpa using hx))
def upsert (es : List (V × V)) (k v : V) : Option (Nat × V) → List (V × V)
  | some (i, _) => es.set i (k, v)
  | none => es ++ [(k, v)]
theorem update_sound {t kt et : TypeId} (hR : Rel gl w0 D ρ H w) {n : Nat} {k v : V} {es : List (V × V)} {r : Option (Nat × V)} (hu : P.underlying t = some (.map kt et)) (hk : keyKind P kt k = true) (hn : D n) (hg : H.get n = some (.map es)) (hf : findV k es 0 = some r) (hki : k.In D ρ) (hvi : v.In D ρ) :
    ∃ w', (Instr.mapUpdate t (.map (some (ρ n).blk)) (k.val ρ) (v.val ρ)).run P w = .ok () w' ∧ Rel gl w0 D ρ (H.set n (.map (upsert es k v r))) w' := by
  obtain ⟨hw, ents, clock, m1, m2, m3⟩ := hR.ob n _ hn hg
  obtain ⟨d, hd, hsame⟩ := keyKind_under hk
  have hfind : (Instr.findKey kt (k.val ρ) ents.toList).run P w = .ok (r.map fun p => (p.1, p.2.val ρ)) w := by
    have := find_now ρ (fun a b => hsame ρ a b) hf m2
    simp only [Instr.findKey, Sem.run_bind, run_underlying hd, Result.andThen_ok, this, Sem.run_pure]
  cases r with
  | none =>
    obtain ⟨w', s1, s2, s3⟩ := setObj_run (P := P) (w := w) (.map (ents.push { key := k.val ρ, val := v.val ρ, born := clock }) (clock + 1)) m1 (by simp)
    refine ⟨w', ?_, hR.turn hn hg rfl s3 ⟨hw, _, _, s2, ?_, ?_⟩⟩
    · simp only [Instr.mapUpdate, Sem.run_bind, run_underlying hu, Result.andThen_ok, run_getObj_map m1, keyKind_check hk, hfind, Option.map_none, s1]
    · simp [m2, upsert]
    · intro p hp
      unfold upsert at hp
      rcases List.mem_append.1 hp with hp | hp
      · exact m3 p hp
      · simp only [List.mem_singleton] at hp
        subst hp
        exact ⟨hki, hvi⟩
  | some p =>
    obtain ⟨i, u⟩ := p
    obtain ⟨_, a, hm, hs⟩ := findV_mem hf
    rw [Nat.sub_zero] at hm
    have hak := sameKey_bits hs ρ
    have hei : ∃ e, ents[i]? = some e ∧ e.key = k.val ρ := by
      have h1 := congrArg (fun l => l[i]?) m2
      simp only [List.getElem?_map, hm, Option.map_some] at h1
      cases he : ents.toList[i]? with
      | none => rw [he] at h1; simp at h1
      | some e =>
        rw [he] at h1
        simp only [Option.map_some, Option.some.injEq, Prod.mk.injEq] at h1
        exact ⟨e, by rw [← Array.getElem?_toList]; exact he, by rw [h1.1, hak]⟩
    obtain ⟨e, he, hek⟩ := hei
    obtain ⟨w', s1, s2, s3⟩ := setObj_run (P := P) (w := w) (.map (ents.modify i fun e => { e with key := k.val ρ, val := v.val ρ }) clock) m1 (by simp)
    refine ⟨w', ?_, hR.turn hn hg rfl s3 ⟨hw, _, _, s2, ?_, ?_⟩⟩
    · simp only [Instr.mapUpdate, Sem.run_bind, run_underlying hu, Result.andThen_ok, run_getObj_map m1, keyKind_check hk, hfind, Option.map_some, he, Option.getD_some, hek, keyStays hk, s1]
    · rw [modify_map, map_set_keys (fun (e : MapEntry) => (e.key, e.val)) ents.toList i _ (k.val ρ, v.val ρ) (fun _ _ => rfl), m2]
      simp [upsert, List.map_set]
    · intro p hp
      unfold upsert at hp
      rcases List.mem_or_eq_of_mem_set hp with hp | hp
      · exact m3 p hp
      · subst hp
        exact ⟨hki, hvi⟩
theorem rowLen_sound {x : V} {m : Nat} (h : rowLen x = some m) (ρ : Nat → Loc) (w : World) : (Builtin.lenOf (x.val ρ)).run P w = .ok m w := by
  unfold rowLen at h
  split at h
  · simp only [Option.some.injEq] at h; subst h; simp [Builtin.lenOf, V.val_nilslice]
  · simp only [Option.some.injEq] at h; subst h; simp [Builtin.lenOf, V.val_tail]
  · simp only [Option.some.injEq] at h; subst h; simp [Builtin.lenOf, V.val_slice]
  · simp only [Option.some.injEq] at h; subst h; simp [Builtin.lenOf, V.val_str, ByteArray.size]
  · cases h
theorem rowCells_sound (hR : Rel gl w0 D ρ H w) {x : V} {esz k : Nat} {cs : List V} (h : rowCells H esz k x = some cs) (hx : x.In D ρ) :
    (∀ u ∈ cs, u.In D ρ ∧ u.one = true) ∧ (Builtin.firstCells esz k (x.val ρ)).run P w = .ok (cs.map (V.val ρ)).toArray w ∧ cs.length = k * esz := by
  unfold rowCells at h
  split at h
  · split at h
    · rename_i hk
      simp only [Option.some.injEq] at h
      subst h
      exact ⟨by simp, rfl, by simp [hk]⟩
    · cases h
  · split at h
    · rename_i hk
      simp only [Option.some.injEq] at h
      subst h hk
      refine ⟨by simp, ?_, by simp⟩
      simp only [Builtin.firstCells, V.val_tail, Nat.zero_mul]
      rfl
    · cases h
  · split at h
    · obtain ⟨a, b, _⟩ := cellsAt_sound hR hx.1 h
      exact ⟨b, by simp only [Builtin.firstCells, V.val_slice, load_cells hR hx.1 h], a⟩
    · cases h
  · split at h
    · rename_i s hk
      simp only [Option.some.injEq] at h
      subst h
      refine ⟨fun u hu => ?_, ?_, by simp [hk.1, hk.2]⟩
      · obtain ⟨b, _, rfl⟩ := List.mem_map.1 hu
        exact ⟨trivial, rfl⟩
      · simp only [Builtin.firstCells, V.val_str, Sem.run_pure]
        congr 1
        apply Array.ext'
        simp [Function.comp_def, V.val_int]
    · cases h
  · cases h
theorem newRow_in {cs : List V} (h : ∀ u ∈ cs, u.In D ρ ∧ u.one = true) {m : Nat} (hm : ¬ D m) (hw : w0.heap.size ≤ w.heap.size) (e : TypeId) (esz cap : Nat) (rest : List Value) (hl : cs.length + rest.length = cap * esz) :
    ObAt (fun n => D n ∨ n = m) (upd ρ m ⟨w.heap.size, 0, cap⟩) w0 (w.alloc (.cells (cs.map (V.val ρ) ++ rest).toArray e)) m (newCells cs esz) := by
  have hu := upd_self ρ m ⟨w.heap.size, 0, cap⟩
  refine ⟨(cs.map (V.val ρ) ++ rest).toArray, e, (0, 0), by rw [hu]; exact heap_alloc_size _ _, fun i v hv => ?_, fun _ => ⟨by rw [hu]; exact hw, by rw [hu]; simp, fun i _ => by simp, fun _ => by rw [hu]; simp [hl]⟩, by simp⟩
  rw [cellOf_new] at hv
  have hmem := List.mem_of_getElem? hv
  refine ⟨?_, (h v hmem).1.mono (upd_old hm), (h v hmem).2⟩
  rw [hu, V.val_ext (fun n hn => (upd_old hm n hn).2) (h v hmem).1]
  have hil : i < cs.length := (List.getElem?_eq_some_iff.1 hv).1
  rw [Nat.zero_add, List.getElem?_toArray, List.getElem?_append_left (by simpa using hil), List.getElem?_map, hv]
  rfl
theorem not_next (hR : Rel gl w0 D ρ H w) : ¬ D H.next := fun h => Nat.lt_irrefl _ (hR.old _ h)
theorem nx_push (hR : Rel gl w0 D ρ H w) (o : Ob) (x : Loc) : Nx D ρ H (fun n => D n ∨ n = H.next) (upd ρ H.next x) (H.push o) := by
  refine ⟨fun n hn => (upd_old (not_next hR) n hn).2, fun n => ?_, by rw [Hp.next_push]; omega, fun n hn _ => by rw [Hp.get_push, if_neg (by omega)]⟩
  rw [Hp.next_push]
  constructor
  · rintro (h | rfl)
    · exact .inl h
    · exact .inr ⟨Nat.le_refl _, Nat.lt_succ_self _⟩
  · rintro (h | ⟨a, b⟩)
    · exact .inl h
    · exact .inr (by omega)
theorem rel_push (hR : Rel gl w0 D ρ H w) {o : Ob} {x : Loc} {obj : Obj} (hx : x.blk = w.heap.size) (hat : ObAt (fun n => D n ∨ n = H.next) (upd ρ H.next x) w0 (w.alloc obj) H.next o) :
    Rel gl w0 (fun n => D n ∨ n = H.next) (upd ρ H.next x) (H.push o) (w.alloc obj) :=
  hR.add (not_next hR) (by rw [Hp.next_push]; omega) (by rw [Hp.next_push]; omega) (fun k hk => by
    rw [Hp.get_push, if_neg]
    rintro rfl
    exact not_next hR hk) (by rw [Hp.get_push, if_pos rfl]) (World.grownBy_alloc _ _ _) (hR.far (by omega)) hat
theorem rel_push' (hR : Rel gl w0 D ρ H w) {o : Ob} {x : Loc} {w' : World} (hx : x.blk = w.heap.size) (hg : w.grownBy w' none) (hat : ObAt (fun n => D n ∨ n = H.next) (upd ρ H.next x) w0 w' H.next o) :
    Rel gl w0 (fun n => D n ∨ n = H.next) (upd ρ H.next x) (H.push o) w' :=
  hR.add (not_next hR) (by rw [Hp.next_push]; omega) (by rw [Hp.next_push]; omega) (fun k hk => by
    rw [Hp.get_push, if_neg]
    rintro rfl
    exact not_next hR hk) (by rw [Hp.get_push, if_pos rfl]) hg (hR.far (by omega)) hat
end
end Go.Ev
