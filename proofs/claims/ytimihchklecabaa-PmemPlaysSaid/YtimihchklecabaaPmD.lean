/- Package pmem: a line's words, gone through. -/
import Derived.Test.YtimihchklecabaaPmC
namespace Go.Proofs.Ytimihchklecabaa
open Go.RowKit Go.Grommet Go.Shelf
attribute [local go_sem] Oper.semAt_some

/-- What a round keeps: these blocks. -/
def Kept (bi bd d : Nat) (W W' : World) : Prop := W'.heap[bi]? = W.heap[bi]? ∧ W'.heap[bd]? = W.heap[bd]? ∧ W'.heap[d]? = W.heap[d]?
theorem Kept.trans {bi bd d : Nat} {A B C : World} (h : Kept bi bd d A B) (k : Kept bi bd d B C) : Kept bi bd d A C := ⟨k.1.trans h.1, k.2.1.trans h.2.1, k.2.2.trans h.2.2⟩
theorem Kept.put {bi bd d : Nat} {w : World} (h1 : bi < w.heap.size) (h2 : bd < w.heap.size) (h3 : d < w.heap.size) (W : World) (l : Nat) (o o' : Obj) (hl : w.heap.size ≤ l) (_ : W.heap[l]? = some o) (_ : o.isCells = false) (_ : o.isWalk = false) : Kept bi bd d W (W.putObj l o') :=
  ⟨World.putObj_heap_other (by omega), World.putObj_heap_other (by omega), World.putObj_heap_other (by omega)⟩

def encW (g i : Nat) (x : Fin 8) : Array Value := #[wordAt g (8 * i + x.1)]

set_option maxHeartbeats 1000000 in
theorem line_stops (m : Nat) (w : World) (bi bd d g i n : Nat) (hi : w.heap[bi]? = some (.cells #[.int .i64 (i : Int)] 3 (0, 0))) (hd : w.heap[bd]? = some (.cells #[ptr d] 25 (0, 0)))
    (hdev : w.heap[d]? = some (.cells #[.slice (some ⟨g, 0, none⟩) n n] 61 (0, 0))) (hlt : 8 * i + 8 ≤ n) (hn : n ≤ 65536) :
    SeqStopsK Fence.wide m Try.prog 43 #[ptr bi, ptr bd] (encW g i) (Kept bi bd d) (fun xs => xs = List.finRange 8) (fun _ => True) 8 w := by
  intro l J Jx W hW hJ hJx hY h0
  have hbi := (Array.getElem?_eq_some_iff.1 hi).1
  have hbd := (Array.getElem?_eq_some_iff.1 hd).1
  have hdd := (Array.getElem?_eq_some_iff.1 hdev).1
  replace hi := (hW.block bi hbi).trans hi
  replace hd := (hW.block bd hbd).trans hd
  replace hdev := (hW.block d hdd).trans hdev
  have HK0 : Hid (Kept bi bd d W W) := Lib.hid ⟨rfl, rfl, rfl⟩
  have HY := Lib.hid hY
  have HJ := Lib.hid h0
  clear hW hJ hJx hY h0 hbi hbd hdd
  unfold ptr at hd ⊢
  refine callsIn_of_wp Try.func43 rfl trivial ?_ rfl
  simp only [Try.ntmps43, List.size_toArray, List.length_cons, List.length_nil, Nat.reduceAdd, Nat.reduceSub, Array.replicate_succ, Array.replicate_zero, List.push_toArray, List.append_toArray, List.nil_append, List.cons_append]
  have c1 : W.cell? ⟨bi, 0, none⟩ = some (.int .i64 (i : Int)) := by simp [World.cell?, hi]
  have wi : IntKind.i64.wrap ((i : Int) * 8) = (i : Int) * 8 := IntWalk.i64_in _ ⟨by omega, by omega⟩
  have wi2 : IntKind.i64.wrap (((i : Int) + 1) * 8) = ((i : Int) + 1) * 8 := IntWalk.i64_in _ ⟨by omega, by omega⟩
  have wi3 : IntKind.i64.wrap ((i : Int) + 1) = (i : Int) + 1 := IntWalk.i64_in _ ⟨by omega, by omega⟩
  have HR := Lib.hid (⟨hi, hd, hdev⟩ : W.heap[bi]? = some (.cells #[.int .i64 (i : Int)] 3 (0, 0)) ∧ W.heap[bd]? = some (.cells #[.pointer (some ⟨d, 0, none⟩)] 25 (0, 0)) ∧ W.heap[d]? = some (.cells #[.slice (some ⟨g, 0, none⟩) n n] 61 (0, 0)))
  gi_wp2
  gi_loopw [4] (fun p wr => ∃ k : Nat, k ≤ 8 ∧ p = .int .i64 ((i : Int) * 8 + (k : Int)) ∧ Hid (J ((List.finRange 8).take k) wr ∧ Kept bi bd d W wr)) (fun p _ => i * 8 + 8 - (intOf p).toNat)
  case atStart => exact ⟨0, by decide, by simp, Lib.hid ⟨HJ.out, HK0.out⟩⟩
  case round =>
    obtain ⟨k, hk, rfl, hR⟩ := hrel
    have HJr := Lib.hid hR.out.1
    have HKr := Lib.hid hR.out.2
    obtain ⟨r1, r2, r3⟩ := HR.out
    have b1 := HKr.out.1.trans r1
    have b2 := HKr.out.2.1.trans r2
    have b3 := HKr.out.2.2.trans r3
    have e1 : wr.cell? ⟨bi, 0, none⟩ = some (.int .i64 (i : Int)) := by simp [World.cell?, b1]
    have e2 : wr.cell? ⟨bd, 0, none⟩ = some (.pointer (some ⟨d, 0, none⟩)) := by simp [World.cell?, b2]
    have e3 : wr.cell? ⟨d, 0, none⟩ = some (.slice (some ⟨g, 0, none⟩) n n) := by simp [World.cell?, b3]
    clear r1 r2 r3 b1 b2 b3 hi hd hdev c1 hR
    by_cases hlt : k < 8
    · have hlt' : (i : Int) * 8 + (k : Int) < ((i : Int) + 1) * 8 := by omega
      have hN : Hid ((List.finRange 8).take (k + 1) = (List.finRange 8).take k ++ [⟨k, hlt⟩]) := Lib.hid (by
        rw [List.take_add_one]; simp [hlt])
      have hy0 := HY.out _ ⟨k, hlt⟩ wr HJr.out (by simp; omega)
      unfold encW wordAt at hy0
      obtain ⟨fn, tmps, assign, body, hy, hR⟩ := hy0
      have ek : ((i : Int) * 8 + (k : Int)).toNat = 8 * i + k := by omega
      have k0 : (0 : Int) ≤ (i : Int) * 8 + (k : Int) := by omega
      have kn : (i : Int) * 8 + (k : Int) < (n : Int) := by omega
      have wk : IntKind.i64.wrap ((i : Int) * 8 + (k : Int)) = (i : Int) * 8 + (k : Int) := IntWalk.i64_in _ ⟨by omega, by omega⟩
      clear HR
      gi_wp2
      refine ⟨fun h => (by cases h), ?_⟩
      refine hR.mono ?_
      have wk1 : IntKind.i64.wrap ((i : Int) * 8 + (k : Int) + 1) = (i : Int) * 8 + (k : Int) + 1 := IntWalk.i64_in _ ⟨by omega, by omega⟩
      clear hR hy
      rintro e W' (⟨rfl, hJ', hkp⟩ | ⟨rfl, hJx'⟩)
      · have HJ' := Lib.hid hJ'
        have HK' := Lib.hid (HKr.out.trans hkp)
        clear hJ' hkp
        gi_wp2
        go_roundw
        case rel => exact ⟨k + 1, by omega, by first | rfl | go_num | (congr 1; omega), Lib.hid ⟨by rw [hN.out]; exact HJ'.out, HK'.out⟩⟩
        case measure => simp [intOf]; omega
      · have HJ' := Lib.hid hJx'
        clear hJx'
        gi_wp2
        refine bodyPost_ret (results_none rfl _ _ _) rfl ?_
        exact ⟨⟨_, rfl⟩, .inr ⟨_, trivial, HJ'.out⟩⟩
    · obtain rfl : k = 8 := by omega
      have hge : ¬ ((i : Int) * 8 + ((8 : Nat) : Int) < ((i : Int) + 1) * 8) := by omega
      have HJ8 := Lib.hid (show J (List.finRange 8) wr by have := HJr.out; rwa [List.take_of_length_le (by simp)] at this)
      clear HJr HKr HR
      gi_wp2
      go_end0
      exact ⟨⟨_, rfl⟩, .inl HJ8.out⟩

/-- 'for c := range d.line(i)': the same, and how many have come is told. -/
theorem range_line2 {m : Nat} {go : Operand} {ps : Array Tmp} {assign body : Code} {Q : Exit → Act → World → Prop} {a : Act} {w : World} (hm : 3 ≤ m)
    {bi bd d g i n : Nat} (hg : a.eval go = .func (.func 43) #[] #[ptr bi, ptr bd]) (hps : ps.size = 1)
    (hi : w.heap[bi]? = some (.cells #[.int .i64 (i : Int)] 3 (0, 0))) (hd : w.heap[bd]? = some (.cells #[ptr d] 25 (0, 0)))
    (hdev : w.heap[d]? = some (.cells #[.slice (some ⟨g, 0, none⟩) n n] 61 (0, 0))) (hlt : 8 * i + 8 ≤ n) (hn : n ≤ 65536)
    {σ : Type} (step : σ → Nat → σ) (s0 : σ) (R : σ → World → Prop) (hR : OwnFrom w.heap.size R) (h0 : R s0 w) (a₁ : Nat → Act)
    (hassign : ∀ (l x : Nat) (W : World) (K : Act → World → Prop), K (a₁ x) W → assign.wpIn (Fence.wide.inRound l) (m - 1 - 1) Try.prog (Exit.then K (fun _ _ _ => False)) { tmps := (ps.zip #[wordAt g (8 * i + x)]).foldl (fun t (p, v) => t.setIfInBounds p v) a.tmps, defers := [] } W)
    (hbody : ∀ (l : Nat) (pre : List Nat) (x : Nat) (W : World), pre.length < 8 → x < 8 → R (pre.foldl step s0) W → body.wpIn (Fence.wide.inRound l) (m - 1 - 1) Try.prog (fun e _ W' => e = .normal ∧ KeepsOthers W W' ∧ Kept bi bd d W W' ∧ R (step (pre.foldl step s0) x) W') (a₁ x) W)
    (hdone : ∀ (D : Nat) (W : World), w.heap.size ≤ D → R ((List.range 8).foldl step s0) W → W.heap[D]? = some (.deferred (some [])) → Q .normal { a with defers := { target := .collected D, args := #[] } :: a.defers } W) :
    (Code.rangeFunc go ps assign body).wpIn Fence.wide m Try.prog Q a w := by
  have hbi := (Array.getElem?_eq_some_iff.1 hi).1
  have hbd := (Array.getElem?_eq_some_iff.1 hd).1
  have hdd := (Array.getElem?_eq_some_iff.1 hdev).1
  refine wpIn_rangeFunc_ownF (α := Fin 8) rfl (by omega) hg trivial (enters_of Try.func43 (by kernel_rfl) rfl) (line_stops (m - 1) w bi bd d g i n hi hd hdev hlt hn)
    (fun h k => h.trans k) (Kept.put hbi hbd hdd) (Below.refl _ _) (fun _ => hps.symm)
    (fun (pre : List (Fin 8)) W => R (pre.foldl (fun s (x : Fin 8) => step s x.1) s0) W) (fun _ _ _ => False) (fun pre W W' row hs hg hr => hR (pre.foldl (fun s (x : Fin 8) => step s x.1) s0) W W' row hs hg hr) (fun _ _ _ _ _ hs _ _ => hs) h0 (fun x => a₁ x.1) (fun l x W K hK => hassign l x.1 W K hK) ?_ ?_ ?_
  · intro l pre x W hW hlen
    have hfold : pre.foldl (fun s (x : Fin 8) => step s x.1) s0 = (pre.map (·.1)).foldl step s0 := by rw [List.foldl_map]
    have hb := hbody l (pre.map (·.1)) x.1 W (by simpa using hlen) x.2 (by rw [← hfold]; exact hW)
    rw [← hfold] at hb
    refine wpIn_mono hb ?_
    rintro e a' W' ⟨rfl, h1, h2, h3⟩
    refine ⟨h1, h2, ?_⟩
    show R (List.foldl _ s0 (pre ++ [x])) W'
    rw [List.foldl_append]
    exact h3
  · intro D xs W hD hxs hW hK
    subst hxs
    refine hdone D W hD ?_ hK
    have : (List.finRange 8).foldl (fun s (x : Fin 8) => step s x.1) s0 = (List.range 8).foldl step s0 := rfl
    rw [← this]; exact hW
  · intro D c pre W _ _ h _
    exact h.elim

/-- 'for c := range d.line(i)': each of the line's eight words comes, one behind the other. -/
theorem range_line {m : Nat} {go : Operand} {ps : Array Tmp} {assign body : Code} {Q : Exit → Act → World → Prop} {a : Act} {w : World} (hm : 3 ≤ m)
    {bi bd d g i n : Nat} (hg : a.eval go = .func (.func 43) #[] #[ptr bi, ptr bd]) (hps : ps.size = 1)
    (hi : w.heap[bi]? = some (.cells #[.int .i64 (i : Int)] 3 (0, 0))) (hd : w.heap[bd]? = some (.cells #[ptr d] 25 (0, 0)))
    (hdev : w.heap[d]? = some (.cells #[.slice (some ⟨g, 0, none⟩) n n] 61 (0, 0))) (hlt : 8 * i + 8 ≤ n) (hn : n ≤ 65536)
    {σ : Type} (step : σ → Nat → σ) (s0 : σ) (R : σ → World → Prop) (hR : OwnFrom w.heap.size R) (h0 : R s0 w) (a₁ : Nat → Act)
    (hassign : ∀ (l x : Nat) (W : World) (K : Act → World → Prop), K (a₁ x) W → assign.wpIn (Fence.wide.inRound l) (m - 1 - 1) Try.prog (Exit.then K (fun _ _ _ => False)) { tmps := (ps.zip #[wordAt g (8 * i + x)]).foldl (fun t (p, v) => t.setIfInBounds p v) a.tmps, defers := [] } W)
    (hbody : ∀ (l : Nat) (s : σ) (x : Nat) (W : World), x < 8 → R s W → body.wpIn (Fence.wide.inRound l) (m - 1 - 1) Try.prog (fun e _ W' => e = .normal ∧ KeepsOthers W W' ∧ Kept bi bd d W W' ∧ R (step s x) W') (a₁ x) W)
    (hdone : ∀ (D : Nat) (W : World), w.heap.size ≤ D → R ((List.range 8).foldl step s0) W → W.heap[D]? = some (.deferred (some [])) → Q .normal { a with defers := { target := .collected D, args := #[] } :: a.defers } W) :
    (Code.rangeFunc go ps assign body).wpIn Fence.wide m Try.prog Q a w :=
  range_line2 hm hg hps hi hd hdev hlt hn step s0 R hR h0 a₁ hassign (fun l _ x W _ hx hW => hbody l _ x W hx hW) hdone
end Go.Proofs.Ytimihchklecabaa
