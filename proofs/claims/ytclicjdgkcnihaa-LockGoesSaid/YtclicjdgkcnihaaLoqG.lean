/- Package lock: the free locks, gone through. -/
import Derived.Test.YtclicjdgkcnihaaLoqA
import Derived.Test.YtclicjdgkcnihaaMarks
import Derived.Test.YtclicjdgkcnihaaSeqOwn
import Derived.RegionIn
namespace Go.Proofs.Ytclicjdgkcnihaa
open Go.RowKit Go.Grommet Go.Shelf
attribute [local go_sem] Oper.semAt_some

theorem free_any (w : World) (X : Nat) : Calls Try.prog 22 #[.pointer (some ⟨X, 0, none⟩)] w fun e w' => e = .returned (.func (.func 27) #[] #[.pointer (some ⟨w.heap.size, 0, none⟩)]) ∧ w' = w.alloc (.cells #[.pointer (some ⟨X, 0, none⟩)] 24) := by
  go_enter Try.func22, Try.ntmps22
  go_wp2
  go_ret
  exact ⟨rfl, rfl⟩

/-- The free ones of the first k locks. -/
def freeL (f : Nat → Int) : Nat → List (Fin 70)
  | 0 => []
  | k + 1 => if h : k < 70 then (if (f k == -1) = true then freeL f k ++ [⟨k, h⟩] else freeL f k) else freeL f k
theorem freeL_yes {f : Nat → Int} {k : Nat} (h : (f k == -1) = true) (hk : k < 70) : freeL f (k + 1) = freeL f k ++ [⟨k, hk⟩] := by
  show (if h : k < 70 then _ else _) = _
  rw [dif_pos hk, if_pos h]
theorem freeL_no {f : Nat → Int} {k : Nat} (h : (f k == -1) = false) (hk : k < 70) : freeL f (k + 1) = freeL f k := by
  show (if h : k < 70 then _ else _) = _
  rw [dif_pos hk, if_neg (by rw [h]; decide)]
theorem freeL_le (f : Nat → Int) : ∀ k, (freeL f k).length ≤ k
  | 0 => Nat.le_refl _
  | k + 1 => by
    have ih := freeL_le f k
    show (if h : k < 70 then _ else _ : List (Fin 70)).length ≤ _
    split
    · split
      · rw [List.length_append, List.length_singleton]; omega
      · omega
    · omega

theorem freeL_lt (f : Nat → Int) : ∀ (k : Nat) (x : Fin 70), x ∈ freeL f k → x.1 < k
  | 0, x, h => by cases h
  | k + 1, x, h => by
    have ih := freeL_lt f k x
    by_cases hk : k < 70
    · cases hb : (f k == -1) with
      | true =>
        rw [freeL_yes hb hk] at h
        rcases List.mem_append.1 h with h | h
        · have := ih h; omega
        · rw [List.mem_singleton.1 h]; exact Nat.lt_succ_self k
      | false => rw [freeL_no hb hk] at h; have := ih h; omega
    · have := x.2; omega

/-- What Give turns while it goes through the free locks: who holds, the queues, whom it tells. -/
structure St where
  f : Nat → Int
  q : Nat → Value
  ql : Nat → List Nat
  nx : List Nat
def setl (ql : Nat → List Nat) (k : Nat) (L : List Nat) : Nat → List Nat := fun i => if i = k then L else ql i
/-- 'queue[1:]'. -/
def tailV : Value → Value
  | .slice ad n c => .slice (if c = 1 then ad else ad.map (·.add 1)) (n - 1) (c - 1)
  | v => v
def stepS (s : St) (x : Nat) : St := match s.ql x with
  | [] => s
  | y :: L => { f := seth s.f x (y : Int), q := setq s.q x (tailV (s.q x)), ql := setl s.ql x L, nx := s.nx ++ [y] }
theorem stepS_nil {s : St} {x : Nat} (h : s.ql x = []) : stepS s x = s := by unfold stepS; rw [h]
theorem stepS_cons {s : St} {x y : Nat} {L : List Nat} (h : s.ql x = y :: L) : stepS s x = { f := seth s.f x (y : Int), q := setq s.q x (tailV (s.q x)), ql := setl s.ql x L, nx := s.nx ++ [y] } := by unfold stepS; rw [h]
theorem stepS_other {s : St} {x k : Nat} (h : k ≠ x) : (stepS s x).f k = s.f k ∧ (stepS s x).q k = s.q k ∧ (stepS s x).ql k = s.ql k := by
  match hq : s.ql x with
  | [] => rw [stepS_nil hq]; exact ⟨rfl, rfl, rfl⟩
  | y :: L =>
    rw [stepS_cons hq]
    refine ⟨?_, ?_, ?_⟩
    · show seth s.f x (y : Int) k = _; unfold seth; rw [if_neg h]
    · show setq s.q x _ k = _; unfold setq; rw [if_neg h]
    · show setl s.ql x _ k = _; unfold setl; rw [if_neg h]
def runS (s : St) (pre : List (Fin 70)) : St := pre.foldl (fun s x => stepS s x.1) s
theorem runS_snoc (s : St) (pre : List (Fin 70)) (x : Fin 70) : runS s (pre ++ [x]) = stepS (runS s pre) x.1 := by unfold runS; rw [List.foldl_append]; rfl
theorem runS_other : ∀ (pre : List (Fin 70)) (s : St) (k : Nat), (∀ x ∈ pre, x.1 ≠ k) → (runS s pre).f k = s.f k ∧ (runS s pre).q k = s.q k ∧ (runS s pre).ql k = s.ql k
  | [], _, _, _ => ⟨rfl, rfl, rfl⟩
  | x :: pre, s, k, h => by
    have h1 := runS_other pre (stepS s x.1) k (fun y hy => h y (List.mem_cons_of_mem _ hy))
    have h2 := stepS_other (s := s) (x := x.1) (k := k) (fun e => h x (List.mem_cons_self ..) e.symm)
    exact ⟨h1.1.trans h2.1, h1.2.1.trans h2.2.1, h1.2.2.trans h2.2.2⟩

/-- What a round keeps: the iterator's own variable. -/
def KeptB (bt : Nat) (W W' : World) : Prop := W'.heap[bt]? = W.heap[bt]?
theorem KeptB.trans {bt : Nat} {A B C : World} (h : KeptB bt A B) (k : KeptB bt B C) : KeptB bt A C := Eq.trans k h
theorem KeptB.get {bt : Nat} {A B : World} {o : Option Obj} (h : KeptB bt A B) (k : A.heap[bt]? = o) : B.heap[bt]? = o := Eq.trans h k
theorem KeptB.put {bt : Nat} {w : World} (h1 : bt < w.heap.size) (W : World) (l : Nat) (o o' : Obj) (hl : w.heap.size ≤ l) (_ : W.heap[l]? = some o) (_ : o.isCells = false) (_ : o.isWalk = false) : KeptB bt W (W.putObj l o') :=
  World.putObj_heap_other (by omega)
def encT (X : Nat) (x : Fin 70) : Array Value := #[.pointer (some ⟨X, 1 + x.1 * 2, none⟩)]

set_option maxRecDepth 100000 in
set_option maxHeartbeats 1000000 in
theorem free_seq (n : Nat) (w : World) (bt X m : Nat) (s : St) (hb : w.heap[bt]? = some (.cells #[.pointer (some ⟨X, 0, none⟩)] 24 (0, 0))) :
    SeqOwn Fence.wide n Try.prog 27 #[.pointer (some ⟨bt, 0, none⟩)] (encT X) (fun _ _ => False) (fun pre A => TabIs A X m (runS s pre).f (runS s pre).q) (KeptB bt) (fun xs => xs = freeL s.f 70) (fun _ => True) 70 w := by
  intro l J Jx W hW hJ hJx hIO hPhi hY h0
  have hbs := (Array.getElem?_eq_some_iff.1 hb).1
  replace hb := (hW.block bt hbs).trans hb
  have HK0 : Hid (KeptB bt W W) := Lib.hid rfl
  have HY := Lib.hid hY
  have HJ := Lib.hid h0
  have HP := Lib.hid hPhi
  clear hW hJ hJx hIO hPhi hY h0 hbs
  refine callsIn_of_wp Try.func27 rfl trivial ?_ rfl
  simp only [Try.ntmps27, List.size_toArray, List.length_cons, List.length_nil, Nat.reduceAdd, Nat.reduceSub, Array.replicate_succ, Array.replicate_zero, List.push_toArray, List.append_toArray, List.nil_append, List.cons_append]
  have HR := Lib.hid hb
  clear hb
  gi_wp2_with fail
  gi_loopw [4] (fun p wr => ∃ k : Nat, k ≤ 70 ∧ p = .int .i64 (k : Int) ∧ Hid (J (freeL s.f k) wr ∧ KeptB bt W wr)) (fun p _ => 70 - (intOf p).toNat)
  case atStart => exact ⟨0, by decide, rfl, Lib.hid ⟨HJ.out, HK0.out⟩⟩
  case round =>
    clear HJ HK0
    obtain ⟨k, hk, rfl, hR⟩ := hrel
    have HJr := Lib.hid hR.out.1
    have HKr := Lib.hid hR.out.2
    have b1 := HKr.out.get HR.out
    have b2 := HP.out _ _ HJr.out
    have e1 : wr.cell? ⟨bt, 0, none⟩ = some (.pointer (some ⟨X, 0, none⟩)) := by simp [World.cell?, b1]
    have k0 : (0 : Int) ≤ (k : Int) := by omega
    clear hR b1
    by_cases hlt : k < 70
    · have hlt' : (k : Int) < 70 := by omega
      have e2 := b2.holder k hlt
      rw [(runS_other (freeL s.f k) s k (fun x hx e => by have := freeL_lt s.f k x hx; omega)).1] at e2
      have wk1 : IntKind.i64.wrap ((k : Int) + 1) = (k : Int) + 1 := IntWalk.i64_in _ ⟨by omega, by omega⟩
      have hfl := freeL_le s.f k
      have Hk := Lib.hid hlt
      obtain ⟨u, hu⟩ : ∃ u, s.f k = u := ⟨_, rfl⟩
      rw [hu] at e2
      by_cases h1 : u = -1
      · subst h1
        have hN : Hid (freeL s.f (k + 1) = freeL s.f k ++ [⟨k, hlt⟩]) := Lib.hid (freeL_yes (by rw [hu]; rfl) hlt)
        have hy0 := HY.out _ ⟨k, hlt⟩ wr HJr.out (by omega)
        unfold encT at hy0
        obtain ⟨fn, tmps, assign, body, hy, hR⟩ := hy0
        clear HR b2 HY hu hfl hk HP
        gi_wp2
        refine ⟨fun h => (by cases h), ?_⟩
        refine hR.mono ?_
        clear hR hy
        rintro e W' (⟨rfl, hJ', hkp⟩ | ⟨rfl, hJx'⟩)
        · have HJ' := Lib.hid hJ'
          have HK' := Lib.hid (HKr.out.trans hkp)
          clear hJ' hkp
          gi_wp2
          go_roundw
          case rel => exact ⟨k + 1, Hk.out, by go_num, Lib.hid ⟨by rw [hN.out]; exact HJ'.out, HK'.out⟩⟩
          case measure => have := Hk.out; simp [intOf]; omega
        · have HJ' := Lib.hid hJx'
          clear hJx'
          gi_wp2
          refine bodyPost_ret (results_none rfl _ _ _) rfl ?_
          exact ⟨⟨_, rfl⟩, .inr ⟨_, trivial, HJ'.out⟩⟩
      · have hq : (u == -1) = false := by rw [beq_eq_false_iff_ne]; exact h1
        have hN : Hid (freeL s.f (k + 1) = freeL s.f k) := Lib.hid (freeL_no (by rw [hu]; exact hq) hlt)
        clear HR b2 HY hu hfl hlt hk HP
        gi_wp2
        refine ⟨fun _ h => (by cases h), ?_⟩
        gi_wp2
        go_roundw
        case rel => exact ⟨k + 1, Hk.out, by go_num, Lib.hid ⟨by rw [hN.out]; exact HJr.out, HKr.out⟩⟩
        case measure => have := Hk.out; simp [intOf]; omega
    · obtain rfl : k = 70 := by omega
      clear HKr HR hlt hk
      gi_wp2
      go_end0
      exact ⟨⟨_, rfl⟩, .inl ⟨_, rfl, HJr.out⟩⟩
end Go.Proofs.Ytclicjdgkcnihaa
