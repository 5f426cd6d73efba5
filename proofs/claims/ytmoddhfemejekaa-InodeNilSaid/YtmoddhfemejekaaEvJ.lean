/- What makes memory, and what turns it: as the model does it. -/
import Derived.Test.YtmoddhfemejekaaEvI
import Derived.Laws.AppendOwn
import Derived.OwnWalk
import Derived.IntWalk
import Derived.Lib.ConvBytes
namespace Go.Ev

section
variable {P : Program} {gl : Nat → Option Nat} {w0 w : World} {D : Nat → Prop} {ρ : Nat → Loc} {H : Hp}
theorem r_newObj (o : Obj) (w : World) : (newObj o).run P w = .ok w.heap.size (w.alloc o) := rfl
theorem upd_self (ρ : Nat → Loc) (m : Nat) (x : Loc) : upd ρ m x m = x := by unfold upd; rw [if_pos rfl]
theorem upd_old {ρ : Nat → Loc} {m : Nat} {x : Loc} (hm : ¬ D m) : ∀ n, D n → (D n ∨ n = m) ∧ upd ρ m x n = ρ n := fun n hn => by
  refine ⟨.inl hn, ?_⟩
  unfold upd
  rw [if_neg]
  rintro rfl
  exact hm hn
theorem heap_alloc_size (w : World) (o : Obj) : (w.alloc o).heap[w.heap.size]? = some o := by
  show (w.heap.push o)[w.heap.size]? = some o
  simp
/-- New cells, laid. -/
theorem new_at {cs : List V} {m : Nat} (hm : ¬ D m) (h1 : ∀ u ∈ cs, u.In D ρ) (h2 : cs.all V.one = true) (hw : w0.heap.size ≤ w.heap.size) (e : TypeId) :
    ObAt (fun n => D n ∨ n = m) (upd ρ m ⟨w.heap.size, 0, 0⟩) w0 (w.alloc (.cells (cs.map (V.val ρ)).toArray e)) m (newCells cs 0) := by
  have hu := upd_self ρ m ⟨w.heap.size, 0, 0⟩
  refine ⟨(cs.map (V.val ρ)).toArray, e, (0, 0), by rw [hu]; exact heap_alloc_size _ _, fun i v hv => ?_, fun _ => ⟨by rw [hu]; exact hw, by rw [hu]; simp, fun i _ => by simp, by simp⟩, by simp⟩
  rw [cellOf_new] at hv
  have hmem := List.mem_of_getElem? hv
  refine ⟨?_, (h1 v hmem).mono (upd_old hm), List.all_eq_true.1 h2 v hmem⟩
  rw [hu, V.val_ext (fun n hn => (upd_old hm n hn).2) (h1 v hmem)]
  simp [hv]
theorem zerosL_get (z : List V) (n i : Nat) (h : i < n) : (zerosL z n)[i]? = some (z.getD (i % z.length) .undef) := by
  simp [zerosL, h]
theorem zerosL_map (ρ : Nat → Loc) (z : List V) (n : Nat) (hz : n = 0 ∨ 0 < z.length) : (zerosL z n).map (V.val ρ) = ((Array.range n).map fun i => (z.map (V.val ρ)).toArray[i % (z.map (V.val ρ)).toArray.size]!).toList := by
  apply List.ext_getElem?
  intro i
  by_cases hi : i < n
  · have hl : i % z.length < z.length := Nat.mod_lt _ (by omega)
    simp [zerosL, hi, hl]
  · simp [zerosL, hi]
theorem zerosL_in {z : List V} {n : Nat} (h : ∀ u ∈ z, u.In D ρ) : ∀ u ∈ zerosL z n, u.In D ρ := by
  intro u hu
  unfold zerosL at hu
  obtain ⟨i, _, rfl⟩ := List.mem_map.1 hu
  rw [List.getD_eq_getElem?_getD]
  cases hg : z[i % z.length]? with
  | none => exact trivial
  | some x => exact h x (List.mem_of_getElem? hg)
theorem alloc_sound {tm : List V} {o : Oper} {ob : Ob} {mk : Nat → V} (h : allocV P gl tm o.op = some (ob, mk)) {ev : Operand → Value} (he : Opnds gl tm ρ D ev o.op.operands) (m : Nat) (hm : ¬ D m) :
    ∀ w, w0.heap.size ≤ w.heap.size → ∃ cap w', (execOp ev o).run P w = .ok (.value ((mk m).val (upd ρ m ⟨w.heap.size, 0, cap⟩))) w' ∧ w.grownBy w' none ∧
      ObAt (fun n => D n ∨ n = m) (upd ρ m ⟨w.heap.size, 0, cap⟩) w0 w' m ob ∧ (mk m).In (fun n => D n ∨ n = m) (upd ρ m ⟨w.heap.size, 0, cap⟩) := by
  obtain ⟨dst, op, type, pos, after, guard⟩ := o
  simp only at h he
  unfold Opnds at he
  unfold allocV at h
  split at h
  · rename_i t
    split at h
    · rename_i z hz
      split at h
      · rename_i h1
        simp only [Option.some.injEq, Prod.mk.injEq] at h
        obtain ⟨rfl, rfl⟩ := h
        obtain ⟨z1, z2⟩ := r_zero hz ρ D
        refine fun w hw => ⟨0, w.alloc (.cells (z.cells.map (V.val ρ)).toArray t), ?_, World.grownBy_alloc _ _ _, new_at hm (V.In.cells z1) h1 hw t, .inr rfl⟩
        have hc : (z.val ρ).cells = (z.cells.map (V.val ρ)).toArray := by apply Array.ext'; simpa using V.val_cells ρ z
        simp only [execOp, Instr.alloc, Sem.run_bind, z2, Result.andThen_ok, newVar, newRow, hc, r_newObj, Sem.run_pure, V.val_ptr, upd_self]
      · cases h
    · cases h
  · rename_i t x
    split at h
    · rename_i v hx
      split at h
      · rename_i h1
        simp only [Option.some.injEq, Prod.mk.injEq] at h
        obtain ⟨rfl, rfl⟩ := h
        obtain ⟨a1, a2⟩ := he x (by simp [Op.operands]) _ hx
        refine fun w hw => ⟨0, w.alloc (.cells (v.cells.map (V.val ρ)).toArray t), ?_, World.grownBy_alloc _ _ _, new_at hm (V.In.cells a2) h1 hw t, .inr rfl⟩
        have hc : (v.val ρ).cells = (v.cells.map (V.val ρ)).toArray := by apply Array.ext'; simpa using V.val_cells ρ v
        simp only [execOp, Instr.box, a1, Sem.run_bind, Result.andThen_ok, newVar, newRow, hc, r_newObj, Sem.run_pure, V.val_ptr, upd_self]
      · cases h
    · cases h
  · rename_i t len ps
    split at h
    · rename_i e l hu hl
      split at h
      · rename_i s z hs hz
        split at h
        · rename_i hc
          split at h
          · rename_i cs hcs
            split at h
            · rename_i h1
              simp only [Option.some.injEq, Prod.mk.injEq] at h
              obtain ⟨rfl, rfl⟩ := h
              obtain ⟨z1, z2⟩ := r_zero hz ρ D
              obtain ⟨p1, p2⟩ := r_parts hl (fun x hx u hu => he x.2 (by simp only [Op.operands]; exact mem_toArray_map hx) u hu)
              obtain ⟨f1, f2, f3⟩ := r_fill ρ D hcs (zerosL_in (V.In.cells z1)) p2
              refine fun w hw => ⟨0, w.alloc (.cells (cs.map (V.val ρ)).toArray e), ?_, World.grownBy_alloc _ _ _, new_at hm f1 h1 hw e, .inr rfl, by simp⟩
              have hzc : (z.val ρ).cells = (z.cells.map (V.val ρ)).toArray := by apply Array.ext'; simpa using V.val_cells ρ z
              have hps : (ps.map fun (p : Nat × Operand) => (p.1, ev p.2)).toList = (l.map fun p => (p.1, p.2.val ρ)) := by rw [← p1]; simp
              simp only [execOp, Instr.buildSlice, Sem.run_bind, run_underlying hu, Result.andThen_ok, r_size hs]
              rw [if_neg (by omega)]
              by_cases hn : len * s = 0
              · have hf0 : ((zerosL z.cells (len * s)).map (V.val ρ)).toArray = (Array.range (len * s)).map (fun i => (#[] : Array Value)[i % (#[] : Array Value).size]!) := by
                  rw [hn]; simp [zerosL]
                rw [hf0] at f3
                simp only [hn, if_true, Sem.run_pure]
                rw [hn] at f3
                simp only [hps, f3, newRow, Sem.run_bind, r_newObj, Result.andThen_ok, Sem.run_pure, V.val_slice, upd_self, if_true]
              · have hf0 : ((zerosL z.cells (len * s)).map (V.val ρ)).toArray = (Array.range (len * s)).map (fun i => (z.val ρ).cells[i % (z.val ρ).cells.size]!) := by
                  rw [zerosL_map ρ _ _ (.inr (by rw [hc.2]; exact Nat.pos_of_ne_zero (fun e => hn (by rw [e, Nat.mul_zero])))), hzc]
                rw [hf0] at f3
                simp only [hn, if_false, Sem.run_bind, z2, Sem.run_pure, Result.andThen_ok]
                simp only [hps, f3, newRow, Sem.run_bind, r_newObj, Result.andThen_ok, Sem.run_pure, V.val_slice, upd_self, if_true]
            · cases h
          · cases h
        · cases h
      · cases h
    · cases h
  · rename_i t a b
    split at h
    · rename_i e k l k' c hu ha hb
      split at h
      · rename_i s by_ z hs hby hz
        split at h
        · rename_i hc
          simp only [Option.some.injEq, Prod.mk.injEq] at h
          obtain ⟨rfl, rfl⟩ := h
          obtain ⟨c1, c2, c3, c4, c5, c6⟩ := hc
          obtain ⟨z1, z2⟩ := r_zero hz ρ D
          obtain ⟨i, hi, hib⟩ := r_bytes hby
          obtain ⟨a1, _⟩ := he a (by simp [Op.operands]) _ ha
          obtain ⟨b1, _⟩ := he b (by simp [Op.operands]) _ hb
          have wl : IntKind.i64.wrap l = l := IntWalk.i64_in _ ⟨by omega, by omega⟩
          have wc : IntKind.i64.wrap c = c := IntWalk.i64_in _ ⟨by omega, by omega⟩
          have hbig : (by_ : Int) * c ≤ 281474976710656 := by
            have h1 : (by_ : Int) * c ≤ 64 * c := Int.mul_le_mul_of_nonneg_right (by omega) (by omega)
            omega
          have hzc : (z.val ρ).cells = (z.cells.map (V.val ρ)).toArray := by apply Array.ext'; simpa using V.val_cells ρ z
          have hzl : z.cells.length = s := c5
          refine fun w hw => ⟨0, w.alloc (.cells (((List.range (c.toNat * s)).map fun i => (z.cells.getD (i % s) .undef).val ρ)).toArray e), ?_, World.grownBy_alloc _ _ _, ?_, .inr rfl, by simp⟩
          · simp only [execOp, Instr.makeSlice, Sem.run_bind, run_underlying hu, Result.andThen_ok, a1, b1, V.val_int, asInt, asIntOf, Sem.run_pure, r_info hi, hib, wl, wc]
            rw [if_neg]
            · have hroom : ∀ b w, (askRoom b).run P w = .ok () w := fun b w => by unfold askRoom; split <;> rfl
              simp only [Sem.run_bind, hroom, Result.andThen_ok, r_size hs]
              have hrow : ∀ zz : Array Value, (c.toNat * s ≠ 0 → zz = (z.val ρ).cells) → (Array.range (c.toNat * s)).map (fun x => zz[x % zz.size]!) = ((List.range (c.toNat * s)).map fun i => (z.cells.getD (i % s) .undef).val ρ).toArray := by
                intro zz hzz
                apply Array.ext'
                apply List.ext_getElem?
                intro i
                by_cases hi : i < c.toNat * s
                · have hs0 : 0 < s := Nat.pos_of_ne_zero (fun e => by rw [e, Nat.mul_zero] at hi; omega)
                  have hl : i % s < z.cells.length := by rw [hzl]; exact Nat.mod_lt _ hs0
                  rw [hzz (by omega), hzc]
                  simp only [Array.toList_map, Array.toList_range, List.getElem?_map, List.getElem?_range hi, Option.map_some, List.size_toArray, List.length_map, hzl, List.getElem!_toArray]
                  simp [List.getElem?_eq_getElem hl, List.getD_eq_getElem?_getD]
                · simp [hi]
              by_cases hn : c.toNat * s = 0
              · rw [if_pos hn]
                simp only [Sem.run_bind, Sem.run_pure, Result.andThen_ok]
                rw [hrow #[] (fun h => absurd hn h)]
                simp only [newRow, Sem.run_bind, r_newObj, Result.andThen_ok, Sem.run_pure, V.val_slice, upd_self, if_true]
              · rw [if_neg hn]
                simp only [Sem.run_bind, z2, Sem.run_pure, Result.andThen_ok]
                rw [hrow _ (fun _ => rfl)]
                simp only [newRow, Sem.run_bind, r_newObj, Result.andThen_ok, Sem.run_pure, V.val_slice, upd_self, if_true]
            · simp only [Bool.or_eq_true, decide_eq_true_eq, not_or]
              omega
          · refine ⟨_, e, (0, 0), by rw [upd_self]; exact heap_alloc_size _ _, fun i v hv => ?_, fun _ => ⟨by rw [upd_self]; exact hw, by rw [upd_self]; simp, fun i _ => by simp, by simp⟩, by simp⟩
            unfold cellOf at hv
            split at hv
            · rename_i hi
              rw [T.get_lf] at hv
              simp only [zerosBase] at hv
              have hmem := List.mem_of_getElem? hv
              have hin := V.In.cells z1 v hmem
              refine ⟨?_, hin.mono (upd_old hm), List.all_eq_true.1 c6 v hmem⟩
              rw [upd_self, V.val_ext (fun n hn => (upd_old hm n hn).2) hin]
              rw [hzl] at hv
              simp [hi, List.getD_eq_getElem?_getD, hv]
            · cases hv
        · cases h
      · cases h
    · cases h
  · simp only [Option.some.injEq, Prod.mk.injEq] at h
    obtain ⟨rfl, rfl⟩ := h
    refine fun w hw => ⟨0, w.alloc (.map #[] 0), ?_, World.grownBy_alloc _ _ _, ?_, .inr rfl⟩
    · simp [execOp, Instr.makeMap, V.val_map, upd_self]
    · refine ⟨by rw [upd_self]; exact hw, #[], 0, by rw [upd_self]; exact heap_alloc_size _ _, rfl, by simp⟩
  · rename_i sr ds x
    split at h
    · rename_i e b hs hd hx
      split at h
      · rename_i he'
        simp only [Option.some.injEq, Prod.mk.injEq] at h
        obtain ⟨rfl, rfl⟩ := h
        obtain ⟨a1, _⟩ := he x (by simp [Op.operands]) _ hx
        intro w hw
        have hcv := Lib.run_convert_string_bytes (P := P) w sr ds e ⟨b.toArray⟩ hs hd he'
        have hcells : Lib.bytesCells w e ⟨b.toArray⟩ = ((b.map fun (c : UInt8) => V.int .u8 (c.toNat : Int)).map (V.val ρ) ++ List.replicate (grownCap w b.length 0 e - b.length) (Value.int .u8 0)).toArray := by
          apply Array.ext'
          simp [Lib.bytesCells, ByteArray.size, Function.comp_def, V.val_int]
        have hcap : b.length ≤ grownCap w b.length 0 e := by
          unfold grownCap Question.cut
          exact Nat.le_add_right _ _
        have hsz : (Lib.bytesCells w e ⟨b.toArray⟩).size = grownCap w b.length 0 e := by
          rw [hcells]; simp; omega
        refine ⟨grownCap w b.length 0 e, Lib.bytesWorld w e ⟨b.toArray⟩, ?_, ?_, ?_, .inr rfl, fun _ => ?_⟩
        · simp only [execOp, a1, V.val_str, hcv, Sem.run_bind, Result.andThen_ok, Sem.run_pure, V.val_slice, upd_self]
          rfl
        · refine ⟨rfl, rfl, rfl, by rw [Lib.bytesWorld_size]; omega, fun i hi _ => Lib.bytesWorld_at_old _ _ _ _ hi⟩
        · refine ⟨_, _, _, by rw [upd_self]; exact Lib.bytesWorld_at_new _ _ _, fun i v hv => ?_, fun _ => ⟨by rw [upd_self]; exact hw, by rw [upd_self, hsz]; simpa using hcap, fun i hi => by simp only []; omega, fun _ => by rw [upd_self, hsz]; simp⟩, by simp⟩
          have hl : (b.map fun (c : UInt8) => V.int .u8 (c.toNat : Int)).length = b.length := by simp
          rw [cellOf_new] at hv
          have hmem := List.mem_of_getElem? hv
          obtain ⟨c, _, rfl⟩ := List.mem_map.1 hmem
          have hil := (List.getElem?_eq_some_iff.1 hv).1
          refine ⟨?_, trivial, rfl⟩
          rw [upd_self, hcells, List.getElem?_toArray, Nat.zero_add, List.getElem?_append_left (by simpa using hil), List.getElem?_map, hv]
          rfl
        · rw [upd_self]; simpa using hcap
      · cases h
    · cases h
  · cases h
end
end Go.Ev
