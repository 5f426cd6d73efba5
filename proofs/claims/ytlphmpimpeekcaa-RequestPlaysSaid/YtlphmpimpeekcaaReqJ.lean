/- Package request: Get. -/
import Derived.Test.YtlphmpimpeekcaaReqI
namespace Go.Proofs.Ytlphmpimpeekcaa
open Go.RowKit Go.Grommet

def get0 (bs : List UInt8) : GetS := ⟨{ zeroRq with k := (byteR bs 0 false).1 }, (byteR bs 0 false).2.1, (byteR bs 0 false).2.2, true⟩
def getL (bs : List UInt8) (n : Nat) : GetS := ((flds (byteR bs 0 false).1).take n).foldl (getF bs) (get0 bs)
theorem getL_succ {bs : List UInt8} {n : Nat} {f : Fd} (h : (flds (byteR bs 0 false).1)[n]? = some f) : getL bs (n + 1) = getF bs (getL bs n) f := by
  unfold getL
  rw [List.take_add_one, h, List.foldl_append]; rfl
theorem byteR_lt (bs : List UInt8) (a : Nat) (t : Bool) : (byteR bs a t).1 < 256 := by
  unfold byteR
  split
  · exact (by decide : (0 : Nat) < 256)
  · split
    · exact (bs.getD a 0).toNat_lt
    · exact (by decide : (0 : Nat) < 256)
theorem get0_ok (bs : List UInt8) : (get0 bs).r.Ok := ⟨byteR_lt bs 0 false, (by decide : (0 : Nat) < 256), (by decide : (0 : Nat) < 18446744073709551616), (by decide : (0 : Nat) < 18446744073709551616), (by decide : (0 : Nat) < 18446744073709551616)⟩
theorem getL_ok (bs : List UInt8) : ∀ n, (getL bs n).r.Ok
  | 0 => get0_ok bs
  | n + 1 => by
    cases hf : (flds (byteR bs 0 false).1)[n]? with
    | none =>
      have : getL bs (n + 1) = getL bs n := by unfold getL; rw [List.take_add_one, hf]; simp
      rw [this]; exact getL_ok bs n
    | some f => rw [getL_succ hf]; exact getF_ok bs (getL_ok bs n) f
def getE (bs : List UInt8) : GetS := getL bs (flds (byteR bs 0 false).1).length
/-- Was it a request? -/
def getB (bs : List UInt8) : Bool := (getE bs).b && ((!(getE bs).t && decide ((getE bs).a = bs.length)) && mayQ (getE bs).r)
def getR (bs : List UInt8) : Rq := if getB bs = true then (getE bs).r else zeroRq
def getN (bs : List UInt8) : Nat := if getB bs = true then 0 else 4

set_option maxRecDepth 100000 in
set_option maxHeartbeats 4000000 in
theorem Get_any (ad0 : Option Addr) (l cap0 : Nat) (bs : List UInt8) (w : World) (hl : bs.length = l) (hat : At w ad0 (bs.map bv)) (hnil : ad0 = none → l = 0 ∧ cap0 = 0) (hb : l ≤ 1000000) :
    Calls Try.prog 11 #[.slice ad0 l cap0] w fun e w' => e = .returned (.tuple #[.agg (getR bs).cs, .int .i64 (getN bs : Int)]) ∧ w.grownBy w' none := by
  have hO0 := (Own.nil w).addBox 24 #[.int .u8 0, .int .u8 0, .int .u64 0, .int .u64 0, .int .u64 0, .string ⟨#[]⟩, .string ⟨#[]⟩, .string ⟨#[]⟩]
  obtain ⟨Z, hZ⟩ : ∃ Z, w.heap.size = Z := ⟨_, rfl⟩
  have HNw := Lib.hid (New_any ad0 l cap0 bs (w.alloc (.cells #[.int .u8 0, .int .u8 0, .int .u64 0, .int .u64 0, .int .u64 0, .string ⟨#[]⟩, .string ⟨#[]⟩, .string ⟨#[]⟩] 24)) hl (hat.grown (World.grownBy_alloc w _ none) (fun _ _ _ => by simp)) hnil (by omega))
  rw [hZ] at hO0
  have Hl := Lib.hid hl
  clear hat hl hnil hb
  go_enter Try.func11, Try.ntmps11
  go_wp2_with fail
  refine HNw.out.mono ?_
  rintro e w1 ⟨g, d, rfl, hT, hg⟩
  have hO1 : Grommet.Own w w1 [boxP Z 24 zeroRq.cs, tapeP g d bs 0 false] := by
    have hgl := (Array.getElem?_eq_some_iff.1 hT.cells).1
    have hdl := (row_old hT.bytes d rfl)
    have hd2 := (hT.bytes.lt d rfl).1
    refine Own.add (P := tapeP g d bs 0 false) (F := fun i => i = g ∨ i = d) hO0 ⟨⟨hT.cells, row_base hT.bytes (fun _ _ => Nat.zero_le _), hT.ne, Nat.zero_le _, hT.place, hT.small⟩, .inl rfl, .inr rfl, fun i hi => ?_⟩ (fun i hi => ?_) hg
    · rcases hi with rfl | rfl
      · exact hgl
      · exact hdl
    · rcases hi with rfl | rfl
      · exact hT.low
      · exact hd2
  clear hO0 HNw hT hg hZ
  have hO2 := hO1.addBox 41 #[.pointer (some ⟨g, 0, none⟩)]
  obtain ⟨TB, hTB⟩ : ∃ X, w1.heap.size = X := ⟨_, rfl⟩
  rw [hTB] at hO2
  clear hO1
  go_upto_region 2 with fail
  generalize World.alloc _ _ = w2 at hO2 ⊢
  clear hTB
  have hO3 := hO2.addBox 4 #[.bool true]
  obtain ⟨I, hI⟩ : ∃ X, w2.heap.size = X := ⟨_, rfl⟩
  rw [hI] at hO3
  clear hO2
  go_upto_region 3 with fail
  generalize World.alloc _ _ = w3 at hO3 ⊢
  clear hI
  have hO4 := hO3.addBox 47 #[.func (.func 20) #[] #[.pointer (some ⟨TB, 0, none⟩), .pointer (some ⟨I, 0, none⟩)], .func (.func 22) #[] #[.pointer (some ⟨TB, 0, none⟩)]]
  obtain ⟨J, hJ⟩ : ∃ X, w3.heap.size = X := ⟨_, rfl⟩
  rw [hJ] at hO4
  clear hO3
  go_upto_region 4 with fail
  generalize World.alloc _ _ = w4 at hO4 ⊢
  clear hJ
  have hO4 : Grommet.Own w w4 [boxP Z 24 zeroRq.cs, tapeP g d bs 0 false, boxP TB 41 #[.pointer (some ⟨g, 0, none⟩)], boxP I 4 #[.bool true], boxP J 47 #[gnumF TB I, gtxtF TB]] := hO4
  obtain ⟨hT, hst⟩ := own_tape hO4 1 rfl
  have c1 := (own_cellB hO4 2 rfl 0 (u := .pointer (some ⟨g, 0, none⟩)) rfl).1
  have HB := Lib.hid (Byte_any 0 g d bs 0 false w4 hT)
  have hklt := byteR_lt bs 0 false
  have h0k : (get0 bs).r.k = (byteR bs 0 false).1 := rfl
  have hg0 : get0 bs = ⟨{ zeroRq with k := (byteR bs 0 false).1 }, (byteR bs 0 false).2.1, (byteR bs 0 false).2.2, true⟩ := rfl
  obtain ⟨x, hx⟩ : ∃ x, byteR bs 0 false = x := ⟨_, rfl⟩
  rw [hx] at HB hklt h0k hg0
  have Hx := Lib.hid hx
  obtain ⟨k, a0, t0⟩ := x
  simp only at HB hklt h0k hg0
  have Hk := Lib.hid hklt
  have Hg0 := Lib.hid hg0
  have HS := Lib.hid hst
  clear hst hT hO4 hklt hx h0k hg0
  go_wp2_with fail
  refine HB.out.mono ?_
  rintro e w5 ⟨rfl, hT1, hg⟩
  have hO5 := (HS.out w5 a0 t0 hT1 hg).addBox 24 #[.int .u8 (k : Int), .int .u8 0, .int .u64 0, .int .u64 0, .int .u64 0, .string ⟨#[]⟩, .string ⟨#[]⟩, .string ⟨#[]⟩]
  obtain ⟨R, hR⟩ : ∃ X, w5.heap.size = X := ⟨_, rfl⟩
  rw [hR] at hO5
  clear HB HS hT1 hg c1
  go_upto_region 5 with fail
  generalize World.alloc _ _ = w6 at hO5 ⊢
  clear hR
  have hO5 : Grommet.Own w w6 (GS Z g d TB I J R bs (getL bs 0)) := by
    have e : getL bs 0 = get0 bs := rfl
    rw [e, Hg0.out]; exact hO5
  have hS0 : w6.drew.cell? ⟨R, 0, none⟩ = some (.int .u8 (k : Int)) := by
    have := (own_cellB (hO5.quiet (grown_drew (World.grownBy.refl _ none))) 5 rfl 0 (u := .int .u8 (((getL bs 0).r.k : Nat) : Int)) rfl).1
    rw [this, show getL bs 0 = get0 bs from rfl, Hg0.out]
  have hO : Hid (Grommet.Own w w6.drew (GS Z g d TB I J R bs (getL bs 0))) := Lib.hid (hO5.quiet (grown_drew (World.grownBy.refl _ none)))
  clear hO5
  refine wp_region_held_drew (S := fun wx => wx.cell? ⟨R, 0, none⟩ = some (.int .u8 (k : Int))) (by kernel_rfl) (hS0) (fun hS => ?_)
  clear hS0
  generalize World.drew _ = wD at hO hS ⊢
  refine wpAnyH_take (i := 1) (oi := { dst := some 19, op := Op.fieldAddr 24 (Operand.tmp 7) 0, type := 0, pos := "request.go:94", after := #[], guard := none }) (v := ?vgu11r5o1n1) rfl (by kernel_rfl) (by kernel_rfl) (by kernel_rfl) (fun _ _ _ h => h) (Or.inl ⟨by rfl, ?hgu11r5o1n1⟩) hS ?_
  case hgu11r5o1n1 => (intro wx hx; skip; go_simp; (try with_reducible rfl))
  try simp only [Act.put, List.setIfInBounds_toArray, List.set_cons_zero, List.set_cons_succ]
  refine wpAnyH_take (i := 2) (oi := { dst := some 20, op := Op.load 5 (Operand.tmp 19), type := 5, pos := "request.go:94", after := #[{ on := 1, ground := Ground.data }], guard := none }) (v := ?vgu11r5o2n2) rfl (by kernel_rfl) (by kernel_rfl) (by kernel_rfl) (fun _ _ _ h => h) (Or.inl ⟨by rfl, ?hgu11r5o2n2⟩) hS ?_
  case hgu11r5o2n2 => (intro wx hx; have hcx := hx; go_simp; (try with_reducible rfl))
  try simp only [Act.put, List.setIfInBounds_toArray, List.set_cons_zero, List.set_cons_succ]
  refine wpAnyH_take (i := 5) (oi := { dst := some 23, op := Op.move (Operand.const (Value.int IntKind.i64 0)), type := 3, pos := "request.go:94", after := #[], guard := none }) (v := ?vgu11r5o5n3) rfl (by kernel_rfl) (by kernel_rfl) (by kernel_rfl) (fun _ _ _ h => h) (Or.inl ⟨by rfl, ?hgu11r5o5n3⟩) hS ?_
  case hgu11r5o5n3 => (intro wx hx; skip; go_simp; (try with_reducible rfl))
  try simp only [Act.put, List.setIfInBounds_toArray, List.set_cons_zero, List.set_cons_succ]
  refine wpAnyH_ready (rs := [0]) (by kernel_rfl) (by simp) ?_
  refine AllReadyH.cons (o := { dst := some 18, op := Op.call { callee := Callee.value (Operand.func 25), args := #[], argTypes := #[] }, type := 50, pos := "request.go:94", after := #[], guard := none }) rfl (fun K hK => ?_) AllReadyH.nil
  go_simp
  refine (kinds_any _).mono ?_
  rintro e w9 ⟨M, rfl, ⟨ents, clock, hm, hall⟩, hg1⟩
  obtain ⟨v, hl, ad, cap, rfl, hat, hlo⟩ := hall k Hk.out
  have hOn := Lib.hid (own_addAt hO.out hat hlo hg1)
  have hS1 := hg1.cell hS (by simp)
  have hl := Lib.hid hl
  clear hO hall hat hlo
  have hO := hOn
  clear hOn
  refine hK.out _ _ ?hsgu11r5o0n4 (fun hS => ?_)
  case hsgu11r5o0n4 => (exact hS1)
  clear hK K
  try simp only [Act.put, List.setIfInBounds_toArray, List.set_cons_zero, List.set_cons_succ]
  refine wpAnyH_ready (rs := [3]) (by kernel_rfl) (by simp) ?_
  refine AllReadyH.cons (o := { dst := some 21, op := Op.lookup 50 (Operand.tmp 18) (Operand.tmp 20) false, type := 49, pos := "request.go:94", after := #[{ on := 0, ground := Ground.data }, { on := 2, ground := Ground.data }], guard := none }) rfl (fun K hK => ?_) AllReadyH.nil
  rw [if_pos (by rfl)]
  unfold Oper.wp
  rw [hl.out _ hm _ _ _ _ _ rfl rfl rfl]
  show K _ _
  refine hK.out _ _ ?hsl1 (fun hS => ?_)
  case hsl1 => exact hS
  clear hl hm hg1
  clear hK K
  try simp only [Act.put, List.setIfInBounds_toArray, List.set_cons_zero, List.set_cons_succ]
  refine wpAnyH_take (i := 4) (oi := { dst := some 22, op := Op.call { callee := Callee.builtin Builtin.len, args := #[Operand.tmp 21], argTypes := #[49] }, type := 3, pos := "request.go:94", after := #[{ on := 3, ground := Ground.data }], guard := none }) (v := ?vgu11r5o4n6) rfl (by kernel_rfl) (by kernel_rfl) (by kernel_rfl) (fun _ _ _ h => h) (Or.inl ⟨by rfl, ?hgu11r5o4n6⟩) hS ?_
  case hgu11r5o4n6 => (intro wx hx; skip; go_simp; (try with_reducible rfl))
  try simp only [Act.put, List.setIfInBounds_toArray, List.set_cons_zero, List.set_cons_succ]
  refine wpAnyH_done (by kernel_rfl) ?_ _

  have hOc := Lib.hid hO.out
  clear hO hS
  have hN : (fns k).length = (flds k).length := by rw [fns_flds, List.length_map]
  have hN2 := flds_len k
  obtain ⟨N, hNe⟩ : ∃ N, (flds k).length = N := ⟨_, rfl⟩
  rw [hNe] at hN hN2
  rw [hN]
  have HN := Lib.hid hNe
  have HN2 := Lib.hid hN2
  clear hN hN2 hNe
  go_wp2_with fail
  go_loopw [23] (fun s wr => ∃ n : Nat, n ≤ N ∧ s = .int .i64 (n : Int) ∧ Hid (Grommet.Own w wr (GS Z g d TB I J R bs (getL bs n) ++ [atP ad ((fns k).map fnV)]))) (fun s _ => N - (intOf s).toNat)
  case atStart => exact ⟨0, Nat.zero_le _, rfl, hOc⟩
  case round =>
    clear hOc
    obtain ⟨n, hn, rfl, hO⟩ := hrel
    have n0 : (0 : Int) ≤ (n : Int) := by omega
    by_cases hlt : n < N
    · have hlt' : (n : Int) < (N : Int) := by omega
      have wn : IntKind.i64.wrap ((n : Int) + 1) = (n : Int) + 1 := IntWalk.i64_in _ ⟨by omega, by have := HN2.out; omega⟩
      have wn2 : IntKind.i64.wrap (n : Int) = (n : Int) := IntWalk.i64_in _ ⟨by omega, by have := HN2.out; omega⟩
      obtain ⟨f, hf⟩ : ∃ f, (flds k)[n]? = some f := ⟨_, List.getElem?_eq_getElem (by rw [HN.out]; exact hlt)⟩
      have hs := Lib.hid (getL_succ (bs := bs) (n := n) (f := f) (by rw [Hx.out]; exact hf))
      obtain ⟨g9, o9, rfl, hc⟩ := own_atCell hO.out 6 rfl n (u := fnV f.fn) (by rw [fns_flds, List.getElem?_map, List.getElem?_map, hf]; rfl)
      have j0 := (own_cellB hO.out 4 rfl 0 (u := gnumF TB I) rfl).1
      have j1 := (own_cellB hO.out 4 rfl 1 (u := gtxtF TB) rfl).1
      have HA := Lib.hid (GetC f Z g d TB I J R bs (getL bs n) (getL_ok bs n) w wr _ hO.out)
      have Hin := Lib.hid hlt
      unfold gnumF gtxtF at *
      unfold fnV at hc
      clear hlt hn hf
      cases f
      all_goals
        simp only [Fd.fn] at hc
        go_wp2_with fail
        refine HA.out.mono ?_
        rintro e w7 ⟨⟨v, rfl⟩, hO4⟩
        have hO5 := Lib.hid hO4
        clear HA hO hO4
        go_wp2
        go_roundw
        case rel => exact ⟨n + 1, Hin.out, by go_num, Lib.hid (by rw [hs.out]; exact hO5.out)⟩
        case measure => have := Hin.out; simp [intOf]; omega
    · obtain rfl : n = N := by omega
      have hlt' : ¬ (n : Int) < (n : Int) := by omega
      have HE : Hid (getE bs = getL bs n) := Lib.hid (by unfold getE; rw [Hx.out]; simp only; rw [HN.out])
      have hok := getL_ok bs n
      obtain ⟨s, hs⟩ : ∃ s, getL bs n = s := ⟨_, rfl⟩
      rw [hs] at hO HE hok
      obtain ⟨x, a, t, b⟩ := s
      have HM := Lib.hid (fun wx => May_any x hok wx)
      obtain ⟨mb, hmb⟩ : ∃ mb, mayQ x = mb := ⟨_, rfl⟩
      rw [hmb] at HM
      obtain ⟨hT, hst⟩ := own_tape hO.out 1 rfl
      have HEn := Lib.hid (End_any 0 g d bs a t wr hT)
      obtain ⟨eb, heb⟩ : ∃ eb, (!t && decide (a = bs.length)) = eb := ⟨_, rfl⟩
      rw [heb] at HEn
      have HB2 : Hid (getB bs = (b && (eb && mb))) := Lib.hid (by unfold getB; rw [HE.out]; simp only; rw [heb, hmb])
      have HR2 : Hid (getE bs = ⟨x, a, t, b⟩) := HE
      have HS := Lib.hid hst
      have c1 := (own_cellB hO.out 2 rfl 0 (u := .pointer (some ⟨g, 0, none⟩)) rfl).1
      have c2 := (own_cellB hO.out 3 rfl 0 (u := .bool b) rfl).1
      unfold Rq.cs at HM
      clear hst hT hok hs hmb heb hlt hn HE HN HN2 Hl
      cases b
      · have HB2 : Hid (getB bs = false) := Lib.hid (by rw [HB2.out]; rfl)
        clear HS HEn HM
        obtain ⟨z0, z0z⟩ := own_cellB hO.out 0 rfl 0 (u := .int .u8 0) rfl
        obtain ⟨z1, z1z⟩ := own_cellB hO.out 0 rfl 1 (u := .int .u8 0) rfl
        obtain ⟨z2, z2z⟩ := own_cellB hO.out 0 rfl 2 (u := .int .u64 0) rfl
        obtain ⟨z3, z3z⟩ := own_cellB hO.out 0 rfl 3 (u := .int .u64 0) rfl
        obtain ⟨z4, z4z⟩ := own_cellB hO.out 0 rfl 4 (u := .int .u64 0) rfl
        obtain ⟨z5, z5z⟩ := own_cellB hO.out 0 rfl 5 (u := .string ⟨#[]⟩) rfl
        obtain ⟨z6, z6z⟩ := own_cellB hO.out 0 rfl 6 (u := .string ⟨#[]⟩) rfl
        obtain ⟨z7, z7z⟩ := own_cellB hO.out 0 rfl 7 (u := .string ⟨#[]⟩) rfl
        have hF := (own_put (own_put (own_put (own_put (own_put (own_put (own_put (own_put hO.out 0 rfl 0 (.int .u8 0)) 0 rfl 1 (.int .u8 0)) 0 rfl 2 (.int .u64 0)) 0 rfl 3 (.int .u64 0)) 0 rfl 4 (.int .u64 0)) 0 rfl 5 (.string ⟨#[]⟩)) 0 rfl 6 (.string ⟨#[]⟩)) 0 rfl 7 (.string ⟨#[]⟩))
        obtain ⟨W3, hW3⟩ : ∃ W3, ((((((((wr.setCell ⟨Z, 0, none⟩ (.int .u8 0)).setCell ⟨Z, 1, none⟩ (.int .u8 0)).setCell ⟨Z, 2, none⟩ (.int .u64 0)).setCell ⟨Z, 3, none⟩ (.int .u64 0)).setCell ⟨Z, 4, none⟩ (.int .u64 0)).setCell ⟨Z, 5, none⟩ (.string ⟨#[]⟩)).setCell ⟨Z, 6, none⟩ (.string ⟨#[]⟩)).setCell ⟨Z, 7, none⟩ (.string ⟨#[]⟩)) = W3 := ⟨_, rfl⟩
        rw [hW3] at hF
        have hF : Hid (Grommet.Own w W3 [boxP Z 24 zeroRq.cs, tapeP g d bs a t, boxP TB 41 #[.pointer (some ⟨g, 0, none⟩)], boxP I 4 #[.bool false], boxP J 47 #[gnumF TB I, gtxtF TB], boxP R 24 x.cs, atP ad ((fns k).map fnV)]) := Lib.hid hF
        clear hO
        go_wp2
        try rw [hW3]
        clear hW3 z0 z0z z1 z1z z2 z2z z3 z3z z4 z4z z5 z5z z6 z6z z7 z7z
        have Y0 := (own_cellB hF.out 0 rfl 0 (u := .int .u8 0) rfl).1
        have Y1 := (own_cellB hF.out 0 rfl 1 (u := .int .u8 0) rfl).1
        have Y2 := (own_cellB hF.out 0 rfl 2 (u := .int .u64 0) rfl).1
        have Y3 := (own_cellB hF.out 0 rfl 3 (u := .int .u64 0) rfl).1
        have Y4 := (own_cellB hF.out 0 rfl 4 (u := .int .u64 0) rfl).1
        have Y5 := (own_cellB hF.out 0 rfl 5 (u := .string ⟨#[]⟩) rfl).1
        have Y6 := (own_cellB hF.out 0 rfl 6 (u := .string ⟨#[]⟩) rfl).1
        have Y7 := (own_cellB hF.out 0 rfl 7 (u := .string ⟨#[]⟩) rfl).1
        exact bodyPost_ret (v := .tuple #[.agg #[.int .u8 0, .int .u8 0, .int .u64 0, .int .u64 0, .int .u64 0, .string ⟨#[]⟩, .string ⟨#[]⟩, .string ⟨#[]⟩], .int .i64 4]) (by simp [results, Try.results11, go_sem, Y0, Y1, Y2, Y3, Y4, Y5, Y6, Y7]) rfl ⟨by unfold getR getN; rw [HB2.out]; rfl, hF.out.grown⟩
      · go_wp2_with fail
        refine HEn.out.mono ?_
        rintro e w8 ⟨rfl, hT1, hg⟩
        have hO := Lib.hid (HS.out w8 a t hT1 hg)
        clear HS HEn hT1 hg c1 c2
        cases eb
        · have HB2 : Hid (getB bs = false) := Lib.hid (by rw [HB2.out]; rfl)
          clear HM
          obtain ⟨z0, z0z⟩ := own_cellB hO.out 0 rfl 0 (u := .int .u8 0) rfl
          obtain ⟨z1, z1z⟩ := own_cellB hO.out 0 rfl 1 (u := .int .u8 0) rfl
          obtain ⟨z2, z2z⟩ := own_cellB hO.out 0 rfl 2 (u := .int .u64 0) rfl
          obtain ⟨z3, z3z⟩ := own_cellB hO.out 0 rfl 3 (u := .int .u64 0) rfl
          obtain ⟨z4, z4z⟩ := own_cellB hO.out 0 rfl 4 (u := .int .u64 0) rfl
          obtain ⟨z5, z5z⟩ := own_cellB hO.out 0 rfl 5 (u := .string ⟨#[]⟩) rfl
          obtain ⟨z6, z6z⟩ := own_cellB hO.out 0 rfl 6 (u := .string ⟨#[]⟩) rfl
          obtain ⟨z7, z7z⟩ := own_cellB hO.out 0 rfl 7 (u := .string ⟨#[]⟩) rfl
          have hF := (own_put (own_put (own_put (own_put (own_put (own_put (own_put (own_put hO.out 0 rfl 0 (.int .u8 0)) 0 rfl 1 (.int .u8 0)) 0 rfl 2 (.int .u64 0)) 0 rfl 3 (.int .u64 0)) 0 rfl 4 (.int .u64 0)) 0 rfl 5 (.string ⟨#[]⟩)) 0 rfl 6 (.string ⟨#[]⟩)) 0 rfl 7 (.string ⟨#[]⟩))
          obtain ⟨W3, hW3⟩ : ∃ W3, ((((((((w8.setCell ⟨Z, 0, none⟩ (.int .u8 0)).setCell ⟨Z, 1, none⟩ (.int .u8 0)).setCell ⟨Z, 2, none⟩ (.int .u64 0)).setCell ⟨Z, 3, none⟩ (.int .u64 0)).setCell ⟨Z, 4, none⟩ (.int .u64 0)).setCell ⟨Z, 5, none⟩ (.string ⟨#[]⟩)).setCell ⟨Z, 6, none⟩ (.string ⟨#[]⟩)).setCell ⟨Z, 7, none⟩ (.string ⟨#[]⟩)) = W3 := ⟨_, rfl⟩
          rw [hW3] at hF
          have hF : Hid (Grommet.Own w W3 [boxP Z 24 zeroRq.cs, tapeP g d bs a t, boxP TB 41 #[.pointer (some ⟨g, 0, none⟩)], boxP I 4 #[.bool true], boxP J 47 #[gnumF TB I, gtxtF TB], boxP R 24 x.cs, atP ad ((fns k).map fnV)]) := Lib.hid hF
          clear hO
          go_wp2
          try rw [hW3]
          clear hW3 z0 z0z z1 z1z z2 z2z z3 z3z z4 z4z z5 z5z z6 z6z z7 z7z
          have Y0 := (own_cellB hF.out 0 rfl 0 (u := .int .u8 0) rfl).1
          have Y1 := (own_cellB hF.out 0 rfl 1 (u := .int .u8 0) rfl).1
          have Y2 := (own_cellB hF.out 0 rfl 2 (u := .int .u64 0) rfl).1
          have Y3 := (own_cellB hF.out 0 rfl 3 (u := .int .u64 0) rfl).1
          have Y4 := (own_cellB hF.out 0 rfl 4 (u := .int .u64 0) rfl).1
          have Y5 := (own_cellB hF.out 0 rfl 5 (u := .string ⟨#[]⟩) rfl).1
          have Y6 := (own_cellB hF.out 0 rfl 6 (u := .string ⟨#[]⟩) rfl).1
          have Y7 := (own_cellB hF.out 0 rfl 7 (u := .string ⟨#[]⟩) rfl).1
          exact bodyPost_ret (v := .tuple #[.agg #[.int .u8 0, .int .u8 0, .int .u64 0, .int .u64 0, .int .u64 0, .string ⟨#[]⟩, .string ⟨#[]⟩, .string ⟨#[]⟩], .int .i64 4]) (by simp [results, Try.results11, go_sem, Y0, Y1, Y2, Y3, Y4, Y5, Y6, Y7]) rfl ⟨by unfold getR getN; rw [HB2.out]; rfl, hF.out.grown⟩
        · have x0 := (own_cellB hO.out 5 rfl 0 (u := .int .u8 (x.k : Int)) rfl).1
          have x1 := (own_cellB hO.out 5 rfl 1 (u := .int .u8 (x.fl : Int)) rfl).1
          have x2 := (own_cellB hO.out 5 rfl 2 (u := .int .u64 (x.fd : Int)) rfl).1
          have x3 := (own_cellB hO.out 5 rfl 3 (u := .int .u64 (x.at_ : Int)) rfl).1
          have x4 := (own_cellB hO.out 5 rfl 4 (u := .int .u64 (x.sz : Int)) rfl).1
          have x5 := (own_cellB hO.out 5 rfl 5 (u := .string x.p) rfl).1
          have x6 := (own_cellB hO.out 5 rfl 6 (u := .string x.t) rfl).1
          have x7 := (own_cellB hO.out 5 rfl 7 (u := .string x.d) rfl).1
          go_wp2_with fail
          refine (HM.out _).mono ?_
          rintro e w9 ⟨rfl, hg⟩
          replace hO := Lib.hid (hO.out.quiet hg)
          clear hg HM x0 x1 x2 x3 x4 x5 x6 x7
          cases mb
          · have HB2 : Hid (getB bs = false) := Lib.hid (by rw [HB2.out]; rfl)
            obtain ⟨z0, z0z⟩ := own_cellB hO.out 0 rfl 0 (u := .int .u8 0) rfl
            obtain ⟨z1, z1z⟩ := own_cellB hO.out 0 rfl 1 (u := .int .u8 0) rfl
            obtain ⟨z2, z2z⟩ := own_cellB hO.out 0 rfl 2 (u := .int .u64 0) rfl
            obtain ⟨z3, z3z⟩ := own_cellB hO.out 0 rfl 3 (u := .int .u64 0) rfl
            obtain ⟨z4, z4z⟩ := own_cellB hO.out 0 rfl 4 (u := .int .u64 0) rfl
            obtain ⟨z5, z5z⟩ := own_cellB hO.out 0 rfl 5 (u := .string ⟨#[]⟩) rfl
            obtain ⟨z6, z6z⟩ := own_cellB hO.out 0 rfl 6 (u := .string ⟨#[]⟩) rfl
            obtain ⟨z7, z7z⟩ := own_cellB hO.out 0 rfl 7 (u := .string ⟨#[]⟩) rfl
            have hF := (own_put (own_put (own_put (own_put (own_put (own_put (own_put (own_put hO.out 0 rfl 0 (.int .u8 0)) 0 rfl 1 (.int .u8 0)) 0 rfl 2 (.int .u64 0)) 0 rfl 3 (.int .u64 0)) 0 rfl 4 (.int .u64 0)) 0 rfl 5 (.string ⟨#[]⟩)) 0 rfl 6 (.string ⟨#[]⟩)) 0 rfl 7 (.string ⟨#[]⟩))
            obtain ⟨W3, hW3⟩ : ∃ W3, ((((((((w9.setCell ⟨Z, 0, none⟩ (.int .u8 0)).setCell ⟨Z, 1, none⟩ (.int .u8 0)).setCell ⟨Z, 2, none⟩ (.int .u64 0)).setCell ⟨Z, 3, none⟩ (.int .u64 0)).setCell ⟨Z, 4, none⟩ (.int .u64 0)).setCell ⟨Z, 5, none⟩ (.string ⟨#[]⟩)).setCell ⟨Z, 6, none⟩ (.string ⟨#[]⟩)).setCell ⟨Z, 7, none⟩ (.string ⟨#[]⟩)) = W3 := ⟨_, rfl⟩
            rw [hW3] at hF
            have hF : Hid (Grommet.Own w W3 [boxP Z 24 zeroRq.cs, tapeP g d bs a t, boxP TB 41 #[.pointer (some ⟨g, 0, none⟩)], boxP I 4 #[.bool true], boxP J 47 #[gnumF TB I, gtxtF TB], boxP R 24 x.cs, atP ad ((fns k).map fnV)]) := Lib.hid hF
            clear hO
            go_wp2
            try rw [hW3]
            clear hW3 z0 z0z z1 z1z z2 z2z z3 z3z z4 z4z z5 z5z z6 z6z z7 z7z
            have Y0 := (own_cellB hF.out 0 rfl 0 (u := .int .u8 0) rfl).1
            have Y1 := (own_cellB hF.out 0 rfl 1 (u := .int .u8 0) rfl).1
            have Y2 := (own_cellB hF.out 0 rfl 2 (u := .int .u64 0) rfl).1
            have Y3 := (own_cellB hF.out 0 rfl 3 (u := .int .u64 0) rfl).1
            have Y4 := (own_cellB hF.out 0 rfl 4 (u := .int .u64 0) rfl).1
            have Y5 := (own_cellB hF.out 0 rfl 5 (u := .string ⟨#[]⟩) rfl).1
            have Y6 := (own_cellB hF.out 0 rfl 6 (u := .string ⟨#[]⟩) rfl).1
            have Y7 := (own_cellB hF.out 0 rfl 7 (u := .string ⟨#[]⟩) rfl).1
            exact bodyPost_ret (v := .tuple #[.agg #[.int .u8 0, .int .u8 0, .int .u64 0, .int .u64 0, .int .u64 0, .string ⟨#[]⟩, .string ⟨#[]⟩, .string ⟨#[]⟩], .int .i64 4]) (by simp [results, Try.results11, go_sem, Y0, Y1, Y2, Y3, Y4, Y5, Y6, Y7]) rfl ⟨by unfold getR getN; rw [HB2.out]; rfl, hF.out.grown⟩
          · have x0 := (own_cellB hO.out 5 rfl 0 (u := .int .u8 (x.k : Int)) rfl).1
            have x1 := (own_cellB hO.out 5 rfl 1 (u := .int .u8 (x.fl : Int)) rfl).1
            have x2 := (own_cellB hO.out 5 rfl 2 (u := .int .u64 (x.fd : Int)) rfl).1
            have x3 := (own_cellB hO.out 5 rfl 3 (u := .int .u64 (x.at_ : Int)) rfl).1
            have x4 := (own_cellB hO.out 5 rfl 4 (u := .int .u64 (x.sz : Int)) rfl).1
            have x5 := (own_cellB hO.out 5 rfl 5 (u := .string x.p) rfl).1
            have x6 := (own_cellB hO.out 5 rfl 6 (u := .string x.t) rfl).1
            have x7 := (own_cellB hO.out 5 rfl 7 (u := .string x.d) rfl).1
            obtain ⟨z0, z0z⟩ := own_cellB hO.out 0 rfl 0 (u := .int .u8 0) rfl
            obtain ⟨z1, z1z⟩ := own_cellB hO.out 0 rfl 1 (u := .int .u8 0) rfl
            obtain ⟨z2, z2z⟩ := own_cellB hO.out 0 rfl 2 (u := .int .u64 0) rfl
            obtain ⟨z3, z3z⟩ := own_cellB hO.out 0 rfl 3 (u := .int .u64 0) rfl
            obtain ⟨z4, z4z⟩ := own_cellB hO.out 0 rfl 4 (u := .int .u64 0) rfl
            obtain ⟨z5, z5z⟩ := own_cellB hO.out 0 rfl 5 (u := .string ⟨#[]⟩) rfl
            obtain ⟨z6, z6z⟩ := own_cellB hO.out 0 rfl 6 (u := .string ⟨#[]⟩) rfl
            obtain ⟨z7, z7z⟩ := own_cellB hO.out 0 rfl 7 (u := .string ⟨#[]⟩) rfl
            have hF := (own_put (own_put (own_put (own_put (own_put (own_put (own_put (own_put hO.out 0 rfl 0 (.int .u8 (x.k : Int))) 0 rfl 1 (.int .u8 (x.fl : Int))) 0 rfl 2 (.int .u64 (x.fd : Int))) 0 rfl 3 (.int .u64 (x.at_ : Int))) 0 rfl 4 (.int .u64 (x.sz : Int))) 0 rfl 5 (.string x.p)) 0 rfl 6 (.string x.t)) 0 rfl 7 (.string x.d))
            obtain ⟨W3, hW3⟩ : ∃ W3, ((((((((w9.setCell ⟨Z, 0, none⟩ (.int .u8 (x.k : Int))).setCell ⟨Z, 1, none⟩ (.int .u8 (x.fl : Int))).setCell ⟨Z, 2, none⟩ (.int .u64 (x.fd : Int))).setCell ⟨Z, 3, none⟩ (.int .u64 (x.at_ : Int))).setCell ⟨Z, 4, none⟩ (.int .u64 (x.sz : Int))).setCell ⟨Z, 5, none⟩ (.string x.p)).setCell ⟨Z, 6, none⟩ (.string x.t)).setCell ⟨Z, 7, none⟩ (.string x.d)) = W3 := ⟨_, rfl⟩
            rw [hW3] at hF
            have hF : Hid (Grommet.Own w W3 [boxP Z 24 x.cs, tapeP g d bs a t, boxP TB 41 #[.pointer (some ⟨g, 0, none⟩)], boxP I 4 #[.bool true], boxP J 47 #[gnumF TB I, gtxtF TB], boxP R 24 x.cs, atP ad ((fns k).map fnV)]) := Lib.hid hF
            clear hO
            go_wp2
            try rw [hW3]
            clear hW3 z0 z0z z1 z1z z2 z2z z3 z3z z4 z4z z5 z5z z6 z6z z7 z7z
            have Y0 := (own_cellB hF.out 0 rfl 0 (u := .int .u8 (x.k : Int)) rfl).1
            have Y1 := (own_cellB hF.out 0 rfl 1 (u := .int .u8 (x.fl : Int)) rfl).1
            have Y2 := (own_cellB hF.out 0 rfl 2 (u := .int .u64 (x.fd : Int)) rfl).1
            have Y3 := (own_cellB hF.out 0 rfl 3 (u := .int .u64 (x.at_ : Int)) rfl).1
            have Y4 := (own_cellB hF.out 0 rfl 4 (u := .int .u64 (x.sz : Int)) rfl).1
            have Y5 := (own_cellB hF.out 0 rfl 5 (u := .string x.p) rfl).1
            have Y6 := (own_cellB hF.out 0 rfl 6 (u := .string x.t) rfl).1
            have Y7 := (own_cellB hF.out 0 rfl 7 (u := .string x.d) rfl).1
            exact bodyPost_ret (v := .tuple #[.agg #[.int .u8 (x.k : Int), .int .u8 (x.fl : Int), .int .u64 (x.fd : Int), .int .u64 (x.at_ : Int), .int .u64 (x.sz : Int), .string x.p, .string x.t, .string x.d], .int .i64 0]) (by simp [results, Try.results11, go_sem, Y0, Y1, Y2, Y3, Y4, Y5, Y6, Y7]) rfl ⟨by unfold getR getN; rw [HB2.out]; simp only [Bool.and_self, if_true]; rw [HR2.out]; rfl, hF.out.grown⟩
end Go.Proofs.Ytlphmpimpeekcaa
