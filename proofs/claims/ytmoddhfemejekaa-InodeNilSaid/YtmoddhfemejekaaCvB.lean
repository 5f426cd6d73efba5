/- Operations, with what hangs on the text alone told apart. -/
import Derived.Test.YtmoddhfemejekaaCvA
namespace Go.Ev

inductive GetsC where
  | mk (run : Frm → List V)
section
variable (P : Program) (gl : Nat → Option Nat)

noncomputable def opndC (x : Operand) : Option GetC :=
  match x with
  | .tmp t => some (getC t)
  | .const v => match ofConst v with
    | some c => some ⟨fun _ => c⟩
    | none => none
  | .global g => match gl g with
    | some n => some ⟨fun _ => .ptr n 0⟩
    | none => none
  | .func f => some ⟨fun _ => .fn f .nil .nil⟩
theorem opndC_eq {n : Nat} {m : Frm} {tm : List V} (h : Rep n m tm) (x : Operand) : opnd gl tm x = (opndC gl x).map (·.1 m) := by
  cases x with
  | tmp t => show some (tm.getD t .undef) = some ((getC t).1 m); rw [h.2]
  | const v => simp only [opnd, opndC]; cases ofConst v <;> rfl
  | global g => simp only [opnd, opndC]; cases gl g <;> rfl
  | func f => rfl
noncomputable def opndsC : List Operand → Option GetsC
  | [] => some ⟨fun _ => []⟩
  | x :: l => match opndC gl x, opndsC l with
    | some g, some r => some ⟨fun m => g.1 m :: r.1 m⟩
    | _, _ => none
theorem opndsC_eq {n : Nat} {m : Frm} {tm : List V} (h : Rep n m tm) : ∀ l : List Operand, opnds gl tm l = (opndsC gl l).map (·.1 m)
  | [] => rfl
  | x :: l => by
    simp only [opnds, opndsC, opndC_eq gl h, opndsC_eq h l]
    cases opndC gl x <;> cases opndsC gl l <;> rfl
inductive PartsC where
  | mk (run : Frm → List (Nat × V))
noncomputable def partsC : List (Nat × Operand) → Option PartsC
  | [] => some ⟨fun _ => []⟩
  | (i, x) :: l => match opndC gl x, partsC l with
    | some g, some r => some ⟨fun m => (i, g.1 m) :: r.1 m⟩
    | _, _ => none
theorem partsC_eq {n : Nat} {m : Frm} {tm : List V} (h : Rep n m tm) : ∀ l : List (Nat × Operand), parts gl tm l = (partsC gl l).map (·.1 m)
  | [] => rfl
  | (i, x) :: l => by
    simp only [parts, partsC, opndC_eq gl h, partsC_eq h l]
    cases opndC gl x <;> cases partsC gl l <;> rfl

inductive PC where
  | mk (run : Nat → Frm → Option V)
inductive FV where
  | mk (run : V → Option V)
inductive FV2 where
  | mk (run : V → V → Option V)
noncomputable def PC.bad : PC := ⟨fun _ _ => none⟩
noncomputable def un1 (x : Operand) (f : FV) : PC :=
  match opndC gl x with
  | some g => ⟨fun _ m => f.1 (g.1 m)⟩
  | none => .bad
noncomputable def un2 (x y : Operand) (f : FV2) : PC :=
  match opndC gl x, opndC gl y with
  | some g, some h => ⟨fun _ m => f.1 (g.1 m) (h.1 m)⟩
  | _, _ => .bad
theorem un1_eq {n : Nat} {m : Frm} {tm : List V} (h : Rep n m tm) (x : Operand) (f : FV) : (un1 gl x f).1 n m = match opnd gl tm x with | some v => f.1 v | none => none := by
  rw [opndC_eq gl h]; unfold un1; cases opndC gl x <;> rfl
theorem un2_eq {n : Nat} {m : Frm} {tm : List V} (h : Rep n m tm) (x y : Operand) (f : FV2) : (un2 gl x y f).1 n m = match opnd gl tm x, opnd gl tm y with | some v, some w => f.1 v w | _, _ => none := by
  rw [opndC_eq gl h, opndC_eq gl h]; unfold un2; cases opndC gl x <;> cases opndC gl y <;> rfl

noncomputable def binF (op : BinOp) (t : TypeId) : Option FI → FV2
  | some f => ⟨fun x y => Option.rec (motive := fun _ => Option V) (binV P op t x y) (fun v => some v) (x.intO (fun k a => y.intO (fun l b => Bool.rec (motive := fun _ => Option V) none (some (f.1 k a b)) (Nat.beq (kid k) (kid l)))))⟩
  | none => ⟨fun x y => binV P op t x y⟩
theorem binF_eq (op : BinOp) (t : TypeId) (x y : V) : (binF P op t (fastOp op)).1 x y = binV P op t x y := by
  cases hf : fastOp op with
  | none => rfl
  | some f =>
    cases x
    case int k a =>
      cases y
      case int l b =>
        show Option.rec (motive := fun _ => Option V) (binV P op t (.int k a) (.int l b)) (fun v => some v) (Bool.rec (motive := fun _ => Option V) none (some (f.1 k a b)) (Nat.beq (kid k) (kid l))) = _
        rw [kid_beq]
        by_cases e : k = l
        · rw [decide_eq_true e]; dsimp only; rw [fastOp_eq hf, if_pos e]
        · rw [decide_eq_false e]
      all_goals rfl
    all_goals rfl
noncomputable def unF (op : UnOp) : FV :=
  match op with
  | .not => ⟨fun x => x.boolO (fun b => some (.bool (bNot b)))⟩
  | op => ⟨fun x => unV op x⟩
theorem unF_eq (op : UnOp) (x : V) : (unF op).1 x = unV op x := by
  cases op
  case not =>
    cases x
    case bool b => show some (V.bool (bNot b)) = _; rw [bNot_eq]; rfl
    all_goals rfl
  all_goals rfl
noncomputable def convertF (s d : TypeId) : FV :=
  match P.underlying s, P.underlying d with
  | some _, some (.int k) => ⟨fun x => Option.rec (motive := fun _ => Option V) (convertV P s d x) (fun v => some v) (x.intO (fun _ n => some (.int k (wrapC k n))))⟩
  | _, _ => ⟨fun x => convertV P s d x⟩
theorem convertF_eq (s d : TypeId) (x : V) : (convertF P s d).1 x = convertV P s d x := by
  unfold convertF
  split
  · rename_i k h1 h2
    cases x
    case int l n => show some (V.int k (wrapC k n)) = _; rw [wrapC_eq]; unfold convertV; rw [h1, h2]
    all_goals rfl
  · rfl
noncomputable def fieldAddrF (t : TypeId) (f : Nat) : FV :=
  match P.underlying t with
  | some (.struct fields) => match fields[f]? with
    | some fd => (match sizeV P fd.type with
      | some (_ + 1) => ⟨fun x => x.ptrO (fun n off => some (.ptr n (Nat.add off fd.offset)))⟩
      | _ => ⟨fun _ => none⟩)
    | none => ⟨fun _ => none⟩
  | _ => ⟨fun _ => none⟩
theorem fieldAddrF_eq (t : TypeId) (f : Nat) (x : V) : (fieldAddrF P t f).1 x = fieldAddrV P t x f := by
  unfold fieldAddrF fieldAddrV
  split
  · rename_i fields h1
    split
    · rename_i fd h2
      split
      · rename_i k h3
        cases x
        case ptr n off => simp only [h1, h2, h3]; rfl
        all_goals simp only [h1]; rfl
      · rename_i h3
        cases x
        case ptr n off =>
          simp only [h1, h2]
        all_goals simp only [h1]
    · rename_i h2
      cases x
      case ptr n off => simp only [h1, h2]
      all_goals simp only [h1]
  · rename_i h1
    split
    · rename_i fields n off h2; exact absurd h2 (h1 fields)
    · rfl
noncomputable def indexAddrF (t : TypeId) : FV2 :=
  match P.underlying t with
  | some (.slice e) => (match sizeV P e with
    | some s => ⟨fun x i => x.sliceO (fun n off len _ _ => i.natO (fun i => Bool.rec (motive := fun _ => Option V) none (some (.ptr n (Nat.add off (Nat.mul i s)))) (Nat.ble (Nat.succ i) len)))⟩
    | none => ⟨fun x i => indexAddrV P t x i⟩)
  | some (.array len e) => (match sizeV P e with
    | some s => ⟨fun x i => x.ptrO (fun n off => i.natO (fun i => Bool.rec (motive := fun _ => Option V) none (some (.ptr n (Nat.add off (Nat.mul i s)))) (Nat.ble (Nat.succ i) len)))⟩
    | none => ⟨fun x i => indexAddrV P t x i⟩)
  | _ => ⟨fun x i => indexAddrV P t x i⟩
theorem ble_if {α : Type} (i len : Nat) (a b : α) : Bool.rec (motive := fun _ => α) a b (Nat.ble (Nat.succ i) len) = if i < len then b else a := by
  rw [ble_eq]
  by_cases h : i < len
  · rw [decide_eq_true (p := i.succ ≤ len) h, if_pos h]
  · rw [decide_eq_false (p := i.succ ≤ len) h, if_neg h]
theorem indexAddrF_eq (t : TypeId) (x i : V) : (indexAddrF P t).1 x i = indexAddrV P t x i := by
  unfold indexAddrF
  split
  · rename_i e h1
    split
    · rename_i s h2
      cases x
      case slice n off len c ex =>
        show i.natO _ = _
        rw [natO_eq]
        unfold indexAddrV
        cases natOf i with
        | none => rfl
        | some j => simp only [h1, h2]; exact ble_if _ _ _ _
      all_goals
        show none = _
        unfold indexAddrV
        cases natOf i <;> simp only [h1]
    · rfl
  · rename_i len e h1
    split
    · rename_i s h2
      cases x
      case ptr n off =>
        show i.natO _ = _
        rw [natO_eq]
        unfold indexAddrV
        cases natOf i with
        | none => rfl
        | some j => simp only [h1, h2]; exact ble_if _ _ _ _
      all_goals
        show none = _
        unfold indexAddrV
        cases natOf i <;> simp only [h1]
    · rfl
  · rfl
noncomputable def extractF (i : Nat) : FV := ⟨fun x => x.tupO (fun l => (nthC i).1 l)⟩
theorem extractF_eq (i : Nat) (x : V) : (extractF i).1 x = match x with | .tup l => l.toL[i]? | _ => none := by
  cases x
  case tup l => exact nthC_eq i l
  all_goals rfl
noncomputable def nilCheckF : FV := ⟨fun x => Option.rec (motive := fun _ => Option V) (match x with | .fn f a c => some (.fn f a c) | .yield l => some (.yield l) | _ => none) (fun v => some v) (x.ptrO (fun n off => some (.ptr n off)))⟩
noncomputable def lenF (t : TypeId) : FV :=
  match P.underlying t with
  | some (.slice _) => ⟨fun x => Option.rec (motive := fun _ => Option V) (lenV P t x) (fun v => some v) (x.sliceO (fun _ _ len _ _ => some (.int .i64 (.ofNat len))))⟩
  | _ => ⟨fun x => lenV P t x⟩
theorem lenF_eq (t : TypeId) (x : V) : (lenF P t).1 x = lenV P t x := by
  unfold lenF
  split
  · rename_i e h
    cases x
    case slice n off len c ex => unfold lenV; rw [h]; rfl
    all_goals rfl
  · rfl
noncomputable def fieldF (t : TypeId) (f : Nat) : FV :=
  match P.underlying t with
  | some (.struct fields) => (match fields[f]? with
    | some fd => (match isAggV P fd.type with
      | some false => ⟨fun x => x.aggO (fun l => (nthC fd.offset).1 l)⟩
      | _ => ⟨fun x => fieldV P t x f⟩)
    | none => ⟨fun _ => none⟩)
  | _ => ⟨fun _ => none⟩
theorem fieldF_eq (t : TypeId) (f : Nat) (x : V) : (fieldF P t f).1 x = fieldV P t x f := by
  unfold fieldF
  split
  · rename_i fields h1
    split
    · rename_i fd h2
      split
      · rename_i h3
        unfold fieldV
        cases x
        case agg l => simp only [h1, h2]; unfold partV; simp only [h3]; exact nthC_eq _ _
        all_goals simp only [h1]; rfl
      · rfl
    · rename_i h2
      unfold fieldV
      cases x
      case agg l => simp only [h1, h2]
      all_goals simp only [h1]
  · rename_i h1
    unfold fieldV
    split
    · rename_i fields l h2; exact absurd h2 (h1 fields)
    · rfl

noncomputable def pureC (o : Op) : PC :=
  match o with
  | .move x | .assign x => un1 gl x ⟨some⟩
  | .build t ps => match partsC gl ps.toList with
    | some g => ⟨fun _ m => buildV P t (g.1 m)⟩
    | none => .bad
  | .nilCheck x => un1 gl x nilCheckF
  | .binOp op t x y _ => un2 gl x y (binF P op t (fastOp op))
  | .unOp op _ x => un1 gl x (unF op)
  | .convert s d x => un1 gl x (convertF P s d)
  | .fieldAddr t x f => un1 gl x (fieldAddrF P t f)
  | .field t x f => un1 gl x (fieldF P t f)
  | .indexAddr t x i => un2 gl x i (indexAddrF P t)
  | .index t x i => un2 gl x i ⟨indexV P t⟩
  | .extract x i => un1 gl x (extractF i)
  | .call { callee := .builtin .len, args := ⟨[x]⟩, argTypes := ⟨[t]⟩ } => un1 gl x (lenF P t)
  | .alloc _ | .box _ _ | .load _ _ | .makeSlice _ _ _ | .buildSlice _ _ _ | .lookup _ _ _ _ | .store _ _ _ => .bad
  | o => ⟨fun n m => pureV P gl (toL n m) o⟩
theorem pureC_eq {n : Nat} {m : Frm} {tm : List V} (h : Rep n m tm) (o : Op) : (pureC P gl o).1 n m = pureV P gl tm o := by
  unfold pureC
  split
  · rename_i x; rw [un1_eq gl h, show pureV P gl tm (.move x) = opnd gl tm x from rfl]; cases opnd gl tm x <;> rfl
  · rename_i x; rw [un1_eq gl h, show pureV P gl tm (.assign x) = opnd gl tm x from rfl]; cases opnd gl tm x <;> rfl
  · rename_i t ps
    rw [show pureV P gl tm (.build t ps) = match parts gl tm ps.toList with | some l => buildV P t l | none => none from rfl, partsC_eq gl h]
    cases partsC gl ps.toList <;> rfl
  · rename_i x
    rw [un1_eq gl h, show pureV P gl tm (.nilCheck x) = match opnd gl tm x with | some (.ptr n off) => some (.ptr n off) | some (.fn f a c) => some (.fn f a c) | some (.yield l) => some (.yield l) | _ => none from rfl]
    cases opnd gl tm x with
    | none => rfl
    | some v => cases v <;> rfl
  · rename_i op t x y _
    rw [un2_eq gl h, show ∀ u, pureV P gl tm (.binOp op t x y u) = match opnd gl tm x, opnd gl tm y with | some a, some b => binV P op t a b | _, _ => none from fun _ => rfl]
    cases opnd gl tm x <;> cases opnd gl tm y <;> first | rfl | exact binF_eq P _ _ _ _
  · rename_i op _ x
    rw [un1_eq gl h, show ∀ u, pureV P gl tm (.unOp op u x) = match opnd gl tm x with | some a => unV op a | none => none from fun _ => rfl]
    cases opnd gl tm x <;> first | rfl | exact unF_eq _ _
  · rename_i s d x
    rw [un1_eq gl h, show pureV P gl tm (.convert s d x) = match opnd gl tm x with | some a => convertV P s d a | none => none from rfl]
    cases opnd gl tm x <;> first | rfl | exact convertF_eq P _ _ _
  · rename_i t x f
    rw [un1_eq gl h, show pureV P gl tm (.fieldAddr t x f) = match opnd gl tm x with | some a => fieldAddrV P t a f | none => none from rfl]
    cases opnd gl tm x <;> first | rfl | exact fieldAddrF_eq P _ _ _
  · rename_i t x f
    rw [un1_eq gl h, show pureV P gl tm (.field t x f) = match opnd gl tm x with | some a => fieldV P t a f | none => none from rfl]
    cases opnd gl tm x <;> first | rfl | exact fieldF_eq P _ _ _
  · rename_i t x i
    rw [un2_eq gl h, show pureV P gl tm (.indexAddr t x i) = match opnd gl tm x, opnd gl tm i with | some a, some b => indexAddrV P t a b | _, _ => none from rfl]
    cases opnd gl tm x <;> cases opnd gl tm i <;> first | rfl | exact indexAddrF_eq P _ _ _
  · rename_i t x i
    rw [un2_eq gl h, show pureV P gl tm (.index t x i) = match opnd gl tm x, opnd gl tm i with | some a, some b => indexV P t a b | _, _ => none from rfl]
  · rename_i x i
    rw [un1_eq gl h, show pureV P gl tm (.extract x i) = match opnd gl tm x with | some (.tup l) => l.toL[i]? | _ => none from rfl]
    cases opnd gl tm x with
    | none => rfl
    | some v =>
      refine (extractF_eq _ v).trans ?_
      cases v <;> rfl
  · rename_i x t
    rw [un1_eq gl h, show pureV P gl tm (.call { callee := .builtin .len, args := ⟨[x]⟩, argTypes := ⟨[t]⟩ }) = match opnd gl tm x with | some a => lenV P t a | none => none from rfl]
    cases opnd gl tm x <;> first | rfl | exact lenF_eq P _ _
  all_goals first | rfl | (dsimp only; rw [h.toL])

/-! ### Reads -/
noncomputable def findI (kd : IntKind) (n : Int) (es : List (V × V)) (i : Nat) : Option (Option (Nat × V)) :=
  List.rec (motive := fun _ => Nat → Option (Option (Nat × V))) (fun _ => some none) (fun p _ ih i => Option.rec (motive := fun _ => Option (Option (Nat × V))) none
    (fun b => Bool.rec (motive := fun _ => Option (Option (Nat × V))) (ih (Nat.succ i)) (some (some (i, p.2))) b) (p.1.intO (fun l m => Bool.rec (motive := fun _ => Option Bool) none (some (iEq n m)) (Nat.beq (kid kd) (kid l))))) es i
theorem findI_eq (kd : IntKind) (n : Int) : ∀ (es : List (V × V)) (i : Nat), findI kd n es i = findV (.int kd n) es i
  | [], _ => rfl
  | (a, v) :: es, i => by
    rw [findV, ← findI_eq kd n es (i + 1)]
    show Option.rec (motive := fun _ => Option (Option (Nat × V))) none (fun b => Bool.rec (motive := fun _ => Option (Option (Nat × V))) (findI kd n es (Nat.succ i)) (some (some (i, v))) b) (a.intO (fun l m => Bool.rec (motive := fun _ => Option Bool) none (some (iEq n m)) (Nat.beq (kid kd) (kid l)))) = _
    cases a
    case int l m =>
      show Option.rec (motive := fun _ => Option (Option (Nat × V))) none (fun b => Bool.rec (motive := fun _ => Option (Option (Nat × V))) (findI kd n es (Nat.succ i)) (some (some (i, v))) b) (Bool.rec (motive := fun _ => Option Bool) none (some (iEq n m)) (Nat.beq (kid kd) (kid l))) = _
      rw [kid_beq, iEq_eq]
      by_cases e : kd = l
      · rw [decide_eq_true e]
        simp only [sameKey, if_pos e]
        cases (n == m) <;> rfl
      · rw [decide_eq_false e]
        simp only [sameKey, if_neg e]
    all_goals rfl
inductive LC where
  | mk (run : List (V × V) → V → Option V)
noncomputable def lookC (t : TypeId) (ok : Bool) : LC :=
  match P.underlying t with
  | some (.map kt et) => match P.underlying kt with
    | some (.int _) => ⟨fun es k => Option.rec (motive := fun _ => Option V) (lookV P t es k ok) (fun r => Option.rec (motive := fun _ => Option V)
        (match zeroV P et with
        | some z => some (if ok then .tup (.cons z (.cons (.bool false) .nil)) else z)
        | none => none) (fun p => Prod.rec (motive := fun _ => Option V) (fun _ v => some (if ok then .tup (.cons v (.cons (.bool true) .nil)) else v)) p) r) (k.intO (fun kd n => findI kd n es 0))⟩
    | _ => ⟨fun es k => lookV P t es k ok⟩
  | _ => ⟨fun es k => lookV P t es k ok⟩
theorem lookC_eq (t : TypeId) (ok : Bool) (es : List (V × V)) (k : V) : (lookC P t ok).1 es k = lookV P t es k ok := by
  unfold lookC
  split
  · rename_i kt et h1
    split
    · rename_i kd0 h2
      dsimp only
      cases k
      case int kd n =>
        show Option.rec (motive := fun _ => Option V) (lookV P t es (.int kd n) ok) (fun r => _) (findI kd n es 0) = _
        rw [findI_eq]
        cases hf : findV (.int kd n) es 0 with
        | none => rfl
        | some r =>
          unfold lookV
          rw [h1]
          simp only [keyKind, h2, if_true, hf]
          cases r with
          | none => rfl
          | some p => rfl
      all_goals rfl
    · rfl
  · rfl
inductive RC where
  | mk (run : Nat → Frm → Hp → Option V)
noncomputable def readC (o : Op) : RC :=
  match o with
  | .load t x => match opndC gl x with
    | some g => (match isAggV P t with
      | some false => ⟨fun _ m H => (g.1 m).ptrO (fun n off => H.cellR n off)⟩
      | _ => ⟨fun _ m H => (g.1 m).ptrO (fun n off => loadV P H t n off)⟩)
    | none => ⟨fun _ _ _ => none⟩
  | .lookup t x k ok => match opndC gl x, opndC gl k with
    | some g, some h => ⟨fun _ m H => match g.1 m with
      | .nilmap => (lookC P t ok).1 [] (h.1 m)
      | .map n => (match H.getR n with
        | some (.map es) => (lookC P t ok).1 es (h.1 m)
        | _ => none)
      | _ => none⟩
    | _, _ => ⟨fun _ _ _ => none⟩
  | .convert .. | .call _ => ⟨fun n m H => readV P gl (toL n m) H o⟩
  | _ => ⟨fun _ _ _ => none⟩
theorem readC_eq {n : Nat} {m : Frm} {tm : List V} (h : Rep n m tm) (H : Hp) (o : Op) : (readC P gl o).1 n m H = readV P gl tm H o := by
  unfold readC
  split
  · rename_i t x
    rw [show readV P gl tm H (.load t x) = match opnd gl tm x with | some (.ptr n off) => loadV P H t n off | _ => none from rfl, opndC_eq gl h]
    cases opndC gl x with
    | none => rfl
    | some g =>
      dsimp only [Option.map_some]
      split
      · rename_i h1
        dsimp only
        cases g.1 m
        case ptr n off => show H.cellR n off = loadV P H t n off; unfold loadV; rw [h1]; exact Hp.cellR_eq H n off
        all_goals rfl
      · dsimp only; cases g.1 m <;> rfl
  · rename_i t x k ok
    rw [show readV P gl tm H (.lookup t x k ok) = match opnd gl tm x, opnd gl tm k with
      | some .nilmap, some k => lookV P t [] k ok
      | some (.map n), some k => (match H.get n with
        | some (.map es) => lookV P t es k ok
        | _ => none)
      | _, _ => none from rfl, opndC_eq gl h, opndC_eq gl h]
    cases opndC gl x with
    | none => rfl
    | some g =>
      cases opndC gl k with
      | none => dsimp only [Option.map_some, Option.map_none]; cases g.1 m <;> rfl
      | some q =>
        dsimp only [Option.map_some]
        cases g.1 m
        case nilmap => exact lookC_eq P _ _ _ _
        case map n =>
          dsimp only
          rw [Hp.getR_eq]
          cases H.get n with
          | none => rfl
          | some o => cases o <;> first | rfl | exact lookC_eq P _ _ _ _
        all_goals rfl
  · dsimp only; rw [h.toL]
  · dsimp only; rw [h.toL]
  · rename_i h1 h2 h3 h4
    unfold readV
    split
    · exact absurd rfl (h1 _ _)
    · exact absurd rfl (h2 _ _ _ _)
    · exact absurd rfl (h3 _ _ _)
    · exact absurd rfl (h4 _)
    · rfl

/-! ### What makes memory -/
inductive AC where
  | mk (run : Nat → Frm → Option (Ob × (Nat → V)))
noncomputable def allocC (o : Op) : AC :=
  match o with
  | .alloc t => match zeroV P t with
    | some z => (match z.cells.all V.one with
      | true => ⟨fun _ _ => some (newCells z.cells 0, fun n => .ptr n 0)⟩
      | false => ⟨fun _ _ => none⟩)
    | none => ⟨fun _ _ => none⟩
  | .box _ x => match opndC gl x with
    | some g => ⟨fun _ m => let v := g.1 m; Bool.rec (motive := fun _ => Option (Ob × (Nat → V))) (if v.cells.all V.one then some (newCells v.cells 0, fun n => .ptr n 0) else none) (some (.cells 1 (.nd (some v) .lf .lf) (fun _ => none) 0 false, fun n => .ptr n 0)) v.oneR⟩
    | none => ⟨fun _ _ => none⟩
  | o => ⟨fun n m => allocV P gl (toL n m) o⟩
theorem newCells_one (v : V) : newCells [v] 0 = .cells 1 (.nd (some v) .lf .lf) (fun _ => none) 0 false := rfl
theorem allocC_eq {n : Nat} {m : Frm} {tm : List V} (h : Rep n m tm) (o : Op) : (allocC P gl o).1 n m = allocV P gl tm o := by
  unfold allocC
  split
  · rename_i t
    rw [show allocV P gl tm (.alloc t) = match zeroV P t with | some z => if z.cells.all V.one then some (newCells z.cells 0, fun n => .ptr n 0) else none | none => none from rfl]
    cases hz : zeroV P t with
    | none => rfl
    | some z =>
      dsimp only
      cases hc : z.cells.all V.one with
      | true => rfl
      | false => rfl
  · rename_i t x
    rw [show allocV P gl tm (.box t x) = match opnd gl tm x with | some v => if v.cells.all V.one then some (newCells v.cells 0, fun n => .ptr n 0) else none | none => none from rfl, opndC_eq gl h]
    cases opndC gl x with
    | none => rfl
    | some g =>
      show Bool.rec (motive := fun _ => Option (Ob × (Nat → V))) _ _ (g.1 m).oneR = _
      rw [oneR_eq]
      cases ho : (g.1 m).one with
      | false => rfl
      | true =>
        dsimp only [Option.map_some]
        rw [cells_one ho]
        simp only [List.all_cons, List.all_nil, ho, Bool.and_true, if_pos]
        rfl
  · dsimp only; rw [h.toL]

/-! ### What turns memory -/
inductive EC where
  | mk (run : Nat → Frm → Hp → Option (V × Hp))
noncomputable def effC (o : Op) : EC :=
  match o with
  | .store t x v => match opndC gl x, opndC gl v, sizeV P t with
    | some g, some h, some s => (match s with
      | 1 => ⟨fun n m H => (g.1 m).ptrO (fun b off => let w := h.1 m; Bool.rec (motive := fun _ => Option (V × Hp)) (effV P gl (toL n m) H o) (Option.rec (motive := fun _ => Option (V × Hp)) none (fun H' => some (.undef, H')) (H.store1 b off w)) w.oneR)⟩
      | s => ⟨fun _ m H => (g.1 m).ptrO (fun b off => if (h.1 m).cells.length = s then
        (match H.store b off (h.1 m).cells with
        | some H' => some (.undef, H')
        | none => none) else none)⟩)
    | _, _, _ => ⟨fun _ _ _ => none⟩
  | .call { callee := .builtin .append, args := ⟨[s, x]⟩, argTypes := ⟨[t, u]⟩ } => match P.underlying t, P.underlying u, opndC gl s, opndC gl x with
    | some (.slice e), some u, some s, some x => (match notInt u with
      | true => ⟨fun _ m H => appendV P e H (s.1 m) (x.1 m)⟩
      | false => ⟨fun _ _ _ => none⟩)
    | _, _, _, _ => ⟨fun _ _ _ => none⟩
  | o => ⟨fun n m H => effV P gl (toL n m) H o⟩
theorem effC_eq {n : Nat} {m : Frm} {tm : List V} (h : Rep n m tm) (H : Hp) (o : Op) : (effC P gl o).1 n m H = effV P gl tm H o := by
  unfold effC
  split
  · rename_i t x v
    have E : effV P gl tm H (.store t x v) = match opnd gl tm x, opnd gl tm v, sizeV P t with
      | some (.ptr n off), some v, some s => if v.cells.length = s then
        (match H.store n off v.cells with
        | some H' => some (.undef, H')
        | none => none) else none
      | _, _, _ => none := rfl
    rw [E, opndC_eq gl h, opndC_eq gl h]
    cases hx : opndC gl x with
    | none => rfl
    | some g =>
      cases hv : opndC gl v with
      | none => dsimp only [Option.map_some, Option.map_none]; cases g.1 m <;> rfl
      | some q =>
        cases hs : sizeV P t with
        | none => dsimp only [Option.map_some, Option.map_none]; cases g.1 m <;> rfl
        | some s =>
          dsimp only [Option.map_some]
          split
          · dsimp only
            cases hg : g.1 m
            case ptr b off =>
              show Bool.rec (motive := fun _ => Option (V × Hp)) _ _ (q.1 m).oneR = _
              rw [oneR_eq]
              cases ho : (q.1 m).one with
              | false => dsimp only; rw [h.toL, E, opndC_eq gl h, opndC_eq gl h]; simp only [hx, hv, Option.map_some, hs, hg]
              | true =>
                dsimp only
                rw [cells_one ho, Hp.store1_eq _ _ _ ho]
                simp only [List.length_cons, List.length_nil, if_pos]
                cases H.store b off [q.1 m] <;> rfl
            all_goals rfl
          · dsimp only; cases g.1 m <;> rfl
  · rename_i s x t u
    have E : effV P gl tm H (.call { callee := .builtin .append, args := ⟨[s, x]⟩, argTypes := ⟨[t, u]⟩ }) = match P.underlying t, P.underlying u, opnd gl tm s, opnd gl tm x with
      | some (.slice e), some u, some s, some x => if notInt u then appendV P e H s x else none
      | _, _, _, _ => none := rfl
    rw [E, opndC_eq gl h, opndC_eq gl h]
    cases P.underlying t with
    | none => rfl
    | some d =>
      cases d
      case slice e =>
        cases P.underlying u with
        | none => rfl
        | some d2 =>
          cases opndC gl s with
          | none => rfl
          | some a =>
            cases opndC gl x with
            | none => rfl
            | some b =>
              dsimp only [Option.map_some]
              cases notInt d2 <;> rfl
      all_goals rfl
  · dsimp only; rw [h.toL]
end
end Go.Ev
