/- path.pieces: an iterator over a text's pieces, that keeps in a box what is left. -/
import Derived.Test.YtljcmlcdamlbcaaPatMath
import Derived.Test.YtljcmlcdamlbcaaSeqOwn
import Derived.Test.YtljcmlcdamlbcaaMarks
import Derived.RegionIn
import Derived.Sort.LoopGhostIn
namespace Go.Proofs.Ytljcmlcdamlbcaa
open Go.RowKit Go.Grommet Go.Shelf
attribute [local go_sem] Oper.semAt_some

set_option maxRecDepth 100000 in
set_option maxHeartbeats 1000000 in
theorem pieces_any (s : ByteArray) (w : World) : Calls Try.prog 19 #[.string s] w fun e w' => e = .returned (.func (.func 36) #[] #[.pointer (some ⟨w.heap.size, 0, none⟩)]) ∧ w' = w.alloc (.cells #[.string s] 9) := by
  go_enter Try.func19, Try.ntmps19
  go_wp2
  go_ret
  exact ⟨rfl, rfl⟩

/-- What a round keeps: the box. -/
def KeptB (bt : Nat) (W W' : World) : Prop := W'.heap[bt]? = W.heap[bt]?
theorem KeptB.trans {bt : Nat} {A B C : World} (h : KeptB bt A B) (k : KeptB bt B C) : KeptB bt A C := Eq.trans k h
theorem KeptB.put {bt : Nat} {w : World} (h1 : bt < w.heap.size) (W : World) (l : Nat) (o o' : Obj) (hl : w.heap.size ≤ l) (_ : W.heap[l]? = some o) (_ : o.isCells = false) (_ : o.isWalk = false) : KeptB bt W (W.putObj l o') :=
  World.putObj_heap_other (by omega)
theorem KeptB.get {bt : Nat} {A B : World} {o : Option Obj} (h : KeptB bt A B) (k : A.heap[bt]? = o) : B.heap[bt]? = o := Eq.trans h k
/-- What the iterator writes. -/
def OwB (bt : Nat) (A B : World) : Prop := ∃ v, B = A.setCell ⟨bt, 0, none⟩ v
def encP (x : List UInt8) : Array Value := #[.string (str x)]

set_option maxRecDepth 100000 in
set_option maxHeartbeats 1000000 in
theorem pieces_stops (n : Nat) (w : World) (bt : Nat) (S : List UInt8) (hb : w.heap[bt]? = some (.cells #[.string (str S)] 9 (0, 0))) (hS : S.length ≤ 1000) :
    SeqOwn Fence.wide n Try.prog 36 #[.pointer (some ⟨bt, 0, none⟩)] encP (OwB bt) (fun _ _ => True) (KeptB bt) (fun xs => xs = pcs S) (fun pre => ∃ r, pcs S = pre ++ r) (S.length + 1) w := by
  intro l J Jx W hW hJ hJx hIO hPhi hY h0
  have hbs := (Array.getElem?_eq_some_iff.1 hb).1
  replace hb := Lib.hid ((hW.block bt hbs).trans hb)
  have HY := Lib.hid hY
  have HJ := Lib.hid h0
  have HO := Lib.hid hIO
  have HS := Lib.hid hS
  clear hW hJ hJx hIO hPhi hY h0 hbs hS
  refine callsIn_of_wp Try.func36 rfl trivial ?_ rfl
  simp only [Try.ntmps36, List.size_toArray, List.length_cons, List.length_nil, Nat.reduceAdd, Nat.reduceSub, Array.replicate_succ, Array.replicate_zero, List.push_toArray, List.append_toArray, List.nil_append, List.cons_append]
  gi_wp2_with fail
  gi_loopg [] (S.length) (fun f wr => ∃ (pre : List (List UInt8)) (R : List UInt8), Hid (pcs S = pre ++ pcs R) ∧ Hid (R.length = f ∧ R.length ≤ 1000) ∧ Hid (J pre wr) ∧ Hid (wr.heap[bt]? = some (.cells #[.string (str R)] 9 (0, 0))))
  case atStart => exact ⟨[], S, Lib.hid rfl, Lib.hid ⟨rfl, HS.out⟩, HJ, hb⟩
  case round =>
    clear HJ hb
    obtain ⟨pre, R, HP, HR, HJ, HB⟩ := hrel
    have e1 : wr.cell? ⟨bt, 0, none⟩ = some (.string (str R)) := by have := HB.out; simp [World.cell?, this]
    have Hpl : Hid (pre.length < S.length + 1) := Lib.hid (by
      have h1 := congrArg List.length HP.out
      rw [List.length_append] at h1
      have := (pcs_len R).1
      have := (pcs_len S).2
      omega)
    obtain ⟨i, hi⟩ : ∃ i, Lib.indexByte R 47 = i := ⟨_, rfl⟩
    have HI : Hid (Calls Try.prog 25 #[.string (str R), .int .u8 47] wr fun e w' => e = .returned (.int .i64 i) ∧ w' = wr) := Lib.hid (by
      have h := Try.strings_IndexByte (str R) 47 wr
      rw [show Lib.indexByte (str R).data.toList (47 : Int).toNat.toUInt8 = i from hi] at h
      exact h)
    by_cases c : i < 0
    · have HN : Hid (pcs R = [R]) := Lib.hid (pcs_none (indexB_lt.1 (by rw [hi]; exact c)))
      have hy0 := HY.out _ R wr HJ.out Hpl.out
      unfold encP at hy0
      obtain ⟨fn, tmps, assign, body, hy, hR⟩ := hy0
      have HRr := Lib.hid hR
      clear HY HO HB HR HJ hR hi Hpl
      gi_wp2_with fail
      refine ⟨trivial, fun h => (by cases h), (callsIn_wide.2 HI.out).mono ?_⟩
      rintro e w1 ⟨rfl, rfl⟩
      gi_wp2
      refine ⟨fun h => (by cases h), ?_⟩
      refine HRr.out.mono ?_
      clear HRr hy
      rintro e W' (⟨rfl, hJ', hkp⟩ | ⟨rfl, hJx'⟩)
      · have HJ' := Lib.hid hJ'
        clear hJ' hkp
        gi_wp2
        refine bodyPost_ret (results_none rfl _ _ _) rfl ?_
        exact ⟨⟨_, rfl⟩, .inl ⟨_, by rw [HP.out, HN.out], HJ'.out⟩⟩
      · have HJ' := Lib.hid hJx'
        clear hJx'
        gi_wp2
        refine bodyPost_ret (results_none rfl _ _ _) rfl ?_
        exact ⟨⟨_, rfl⟩, .inr ⟨_, ⟨[], by rw [HP.out, HN.out, List.append_nil]⟩, HJ'.out⟩⟩
    · obtain ⟨p, r, eR, hk, hp⟩ := indexB_at (l := R) (c := 47) (by rw [hi]; exact c)
      have HN : Hid (pcs R = p :: pcs r) := Lib.hid (by rw [eR]; exact pcs_cut r hp)
      obtain ⟨k, ek⟩ : ∃ k, p.length = k := ⟨_, rfl⟩
      obtain ⟨K, eK⟩ : ∃ K, k + 1 = K := ⟨_, rfl⟩
      obtain ⟨z, ez⟩ : ∃ z, (str R).size = z := ⟨_, rfl⟩
      have hlen : R.length = k + 1 + r.length := by rw [eR, List.length_append, List.length_cons]; omega
      have hz : R.length = z := by rw [← ez, size_str]
      have hz2 := HR.out.2
      have e2 : i = (k : Int) := by rw [← hi, hk, ek]
      have x1 : (str R).extract 0 k = str p := by
        rw [extract_str]
        congr 1
        rw [List.drop_zero, Nat.sub_zero, eR, ← ek]
        exact List.take_left
      have x2 : (str R).extract K z = str r := by
        rw [extract_str]
        congr 1
        have h1 : R.drop K = r := by
          rw [eR, ← eK, ← ek, show p ++ 47 :: r = (p ++ [47]) ++ r from by rw [List.append_assoc]; rfl, show p.length + 1 = (p ++ [47]).length from by rw [List.length_append]; rfl]
          exact List.drop_left
        rw [h1, List.take_of_length_le (by omega)]
      subst e2
      have k0 : (0 : Int) ≤ (k : Int) := by omega
      have k1 : (k : Int) ≤ (z : Int) := by omega
      have k2 : (k : Int) + 1 = (K : Int) := by omega
      have k3 : (0 : Int) ≤ (K : Int) := by omega
      have k4 : (K : Int) ≤ (z : Int) := by omega
      have k5 : (z : Int) ≤ 1000 := by omega
      have wK : IntKind.i64.wrap (K : Int) = (K : Int) := IntWalk.i64_in _ ⟨by omega, by omega⟩
      have HL : Hid (r.length < gk ∧ r.length ≤ 1000) := Lib.hid (by have := HR.out.1; omega)
      have hy0 := HY.out _ p wr HJ.out Hpl.out
      unfold encP at hy0
      obtain ⟨fn, tmps, assign, body, hy, hR⟩ := hy0
      have HRr := Lib.hid hR
      clear HY HR HJ hR hi Hpl eK ek hlen hz hz2 hk hp eR
      gi_wp2_with fail
      refine ⟨trivial, fun h => (by cases h), (callsIn_wide.2 HI.out).mono ?_⟩
      rintro e w1 ⟨rfl, rfl⟩
      gi_wp2
      refine ⟨fun h => (by cases h), ?_⟩
      refine HRr.out.mono ?_
      clear HRr hy
      rintro e W' (⟨rfl, hJ', hkp⟩ | ⟨rfl, hJx'⟩)
      · have HJ' := Lib.hid hJ'
        have HB' := Lib.hid (KeptB.get hkp HB.out)
        have c1 : W'.cell? ⟨bt, 0, none⟩ = some (.string (str R)) := by have := HB'.out; simp [World.cell?, this]
        have z1 : W'.frozen? ⟨bt, 0, none⟩ = false := by have := HB'.out; simp [World.frozen?, this]
        clear hJ' hkp e1
        gi_wp2
        go_roundg r.length
        case measure => exact HL.out.1
        case rel =>
          refine ⟨pre ++ [p], r, Lib.hid (by rw [HP.out, HN.out, List.append_assoc]; rfl), Lib.hid ⟨rfl, HL.out.2⟩, Lib.hid (HO.out _ _ _ HJ'.out ⟨_, rfl⟩), Lib.hid ?_⟩
          have := heap_setCell_at (o := 0) HB'.out (.string (str r))
          simpa using this
      · have HJ' := Lib.hid hJx'
        clear hJx'
        gi_wp2
        refine bodyPost_ret (results_none rfl _ _ _) rfl ?_
        exact ⟨⟨_, rfl⟩, .inr ⟨_, ⟨pcs r, by rw [HP.out, HN.out, List.append_assoc]; rfl⟩, HJ'.out⟩⟩
end Go.Proofs.Ytljcmlcdamlbcaa
