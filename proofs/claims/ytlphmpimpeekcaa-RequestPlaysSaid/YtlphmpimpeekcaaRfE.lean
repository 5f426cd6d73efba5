/- The document's answer for requests: Get. -/
import Derived.Test.YtlphmpimpeekcaaRfK
import Derived.Deep.DeepCutAuto
namespace Go.Proofs.Ytlphmpimpeekcaa
open Go.RowKit Go.Grommet

theorem str_ne (a b : ByteArray) (w : World) : (binOp BinOp.neq 9 (.string a) (.string b)).run Try.prog w = .ok (.bool (!decide (a = b))) w := by
  go_simp
  by_cases h : a = b
  · subst h; simp
  · have h2 : ¬ a.toList = b.toList := fun e => h (toList_inj.1 e)
    simp [h, h2]

set_option maxRecDepth 100000 in
set_option maxHeartbeats 16000000 in
theorem RGet_any (ad0 : Option Addr) (l cap0 : Nat) (bs : List UInt8) (w : World) (hl : bs.length = l) (hat : At w ad0 (bs.map bv)) (hnil : ad0 = none → l = 0 ∧ cap0 = 0) (hc : l ≤ cap0) (hb : l ≤ 100000) :
    Calls Try.prog 12 #[.slice ad0 l cap0] w fun e w' => e = .returned (.tuple #[.agg (getR bs).cs, .int .i64 (getN bs : Int)]) ∧ w.grownBy w' none := by
  have hO := Lib.hid ((Own.nil w).addBox 24 #[.int .u8 0, .int .u8 0, .int .u64 0, .int .u64 0, .int .u64 0, .string ⟨#[]⟩, .string ⟨#[]⟩, .string ⟨#[]⟩])
  obtain ⟨Z, hZ⟩ : ∃ Z, w.heap.size = Z := ⟨_, rfl⟩
  rw [hZ] at hO
  have Hl := Lib.hid hl
  have Hat := Lib.hid hat
  have Hnil := Lib.hid hnil
  have Hc := Lib.hid hc
  have Hb := Lib.hid hb
  clear hl hat hnil hc hb
  go_enter Try.func12, Try.ntmps12
  go_upto_region 1 with fail
  try (change Code.wp _ _ _ _ (w.alloc (.cells #[.int .u8 0, .int .u8 0, .int .u64 0, .int .u64 0, .int .u64 0, .string ⟨#[]⟩, .string ⟨#[]⟩, .string ⟨#[]⟩] 24)))
  try rw [hZ]
  generalize World.alloc _ _ = w1 at *
  clear hZ
  have hO1 := own_addRt hO.out Hat.out Hl.out Hc.out (by have := Hb.out; omega) (fun e => (Hnil.out e).1)
  obtain ⟨X, hX⟩ : ∃ X, w1.heap.size = X := ⟨_, rfl⟩
  rw [hX] at hO1
  go_upto_region 2 with fail
  generalize World.alloc _ _ = w2 at hO1 ⊢
  replace hO : Hid (Grommet.Own w w2 [boxP Z 24 #[.int .u8 0, .int .u8 0, .int .u64 0, .int .u64 0, .int .u64 0, .string ⟨#[]⟩, .string ⟨#[]⟩, .string ⟨#[]⟩], rtP w X bs false]) := Lib.hid hO1
  clear hO1 hX
  obtain ⟨hRT, HS⟩ := own_rt hO.out 1 rfl
  have HC := RByte_any w.heap.size X bs 0 false w2 hRT
  have Hla : Hid ((byteR bs 0 false).2.1 ≤ bs.length) := Lib.hid (byteR_le bs 0 false (Nat.zero_le _))
  have Hk0 : Hid ((byteR bs 0 false).1 < 256) := Lib.hid (byteR_lt bs 0 false)
  obtain ⟨k, hk0⟩ : ∃ v, (byteR bs 0 false).1 = v := ⟨_, rfl⟩
  obtain ⟨a0, ha0⟩ : ∃ v, (byteR bs 0 false).2.1 = v := ⟨_, rfl⟩
  obtain ⟨t0, ht0⟩ : ∃ v, (byteR bs 0 false).2.2 = v := ⟨_, rfl⟩
  rw [hk0, ha0, ht0] at HC
  rw [ha0] at Hla
  rw [hk0] at Hk0
  have Hk0e := Lib.hid hk0
  have Ha0 := Lib.hid ha0
  have Ht0 := Lib.hid ht0
  replace HS := Lib.hid HS
  clear hRT hk0 ha0 ht0
  go_wp2_with fail
  refine HC.mono ?_
  rintro e w3 ⟨rfl, hR1, hg⟩
  replace hO : Hid (Grommet.Own w w3 [boxP Z 24 #[.int .u8 0, .int .u8 0, .int .u64 0, .int .u64 0, .int .u64 0, .string ⟨#[]⟩, .string ⟨#[]⟩, .string ⟨#[]⟩], rtP w X (bs.drop a0) t0]) := Lib.hid (HS.out w3 _ _ hR1 hg)
  clear HC HS hR1 hg
  have hOn := hO.out.addBox 24 #[.int .u8 (k : Int), .int .u8 0, .int .u64 0, .int .u64 0, .int .u64 0, .string ⟨#[]⟩, .string ⟨#[]⟩, .string ⟨#[]⟩]
  obtain ⟨R, hR⟩ : ∃ X, w3.heap.size = X := ⟨_, rfl⟩
  rw [hR] at hOn
  go_upto_region 3 with fail
  generalize World.alloc _ _ = w4 at hOn ⊢
  replace hO : Hid (Grommet.Own w w4 [boxP Z 24 #[.int .u8 0, .int .u8 0, .int .u64 0, .int .u64 0, .int .u64 0, .string ⟨#[]⟩, .string ⟨#[]⟩, .string ⟨#[]⟩], rtP w X (bs.drop a0) t0, boxP R 24 #[.int .u8 (k : Int), .int .u8 0, .int .u64 0, .int .u64 0, .int .u64 0, .string ⟨#[]⟩, .string ⟨#[]⟩, .string ⟨#[]⟩]]) := Lib.hid hOn
  clear hOn hR
  have c0 := (own_cellB hO.out 2 rfl 0 (u := .int .u8 (k : Int)) rfl).1
  have k0 : (0 : Int) ≤ (k : Int) := by omega
  go_upto_block 0 with fail
  go_cut [17, 27, 32, 40, 48, 57, 66] (fun _ _ _ _ _ _ _ wx => ∃ (x : Rq) (a : Nat) (t : Bool), Hid x.Ok ∧ Hid (FinQ bs x a t) ∧ Hid (a ≤ bs.length) ∧ Hid (Grommet.Own w wx [boxP Z 24 #[.int .u8 0, .int .u8 0, .int .u64 0, .int .u64 0, .int .u64 0, .string ⟨#[]⟩, .string ⟨#[]⟩, .string ⟨#[]⟩], rtP w X (bs.drop a) t, boxP R 24 x.cs]))
  case first =>
    have hkk : k = 1 ∨ k = 2 ∨ k = 3 ∨ k = 4 ∨ k = 5 ∨ k = 6 ∨ k = 7 ∨ k = 8 ∨ k = 9 ∨ k = 10 ∨ k = 11 ∨ k = 12 ∨ k = 13 ∨ ¬ (1 ≤ k ∧ k ≤ 13) := by omega
    rcases hkk with hk | hk | hk | hk | hk | hk | hk | hk | hk | hk | hk | hk | hk | hk
    · skip
      as_aux_lemma =>
        have Hk : Hid (k = 1) := Lib.hid hk
        have q1 : ((k : Int) == 1) = true := by rw [hk]; rfl
        have q2 : ((k : Int) == 2) = false := by rw [hk]; rfl
        have q3 : ((k : Int) == 3) = false := by rw [hk]; rfl
        have q4 : ((k : Int) == 4) = false := by rw [hk]; rfl
        have q5 : ((k : Int) == 5) = false := by rw [hk]; rfl
        have q6 : ((k : Int) == 6) = false := by rw [hk]; rfl
        have q10 : ((k : Int) == 10) = false := by rw [hk]; rfl
        have q12 : ((k : Int) == 12) = false := by rw [hk]; rfl
        have q13 : ((k : Int) == 13) = false := by rw [hk]; rfl
        clear hk
        have Hle0 := Hla
        obtain ⟨hRT, HS⟩ := own_rt hO.out 1 rfl
        have HC := RText_step w.heap.size X bs a0 t0 200 w4 (by decide) (by decide) hRT Hle0.out
        have Hle1 : Hid ((textR bs a0 t0 200).2.1 ≤ bs.length) := Lib.hid (textR_le bs a0 t0 200 Hle0.out)
        have Hln1 : Hid ((textR bs a0 t0 200).1.length ≤ bs.length) := Lib.hid (textR_len bs a0 t0 200)
        obtain ⟨v1, hv1⟩ : ∃ v, (textR bs a0 t0 200).1 = v := ⟨_, rfl⟩
        obtain ⟨a1, ha1⟩ : ∃ v, (textR bs a0 t0 200).2.1 = v := ⟨_, rfl⟩
        obtain ⟨t1, ht1⟩ : ∃ v, (textR bs a0 t0 200).2.2 = v := ⟨_, rfl⟩
        rw [hv1, ha1, ht1] at HC
        rw [ha1] at Hle1
        rw [hv1] at Hln1
        have Hv1 := Lib.hid hv1
        have Ha1 := Lib.hid ha1
        have Ht1 := Lib.hid ht1
        replace HS := Lib.hid HS
        replace HC := Lib.hid HC
        clear hRT hv1 ha1 ht1
        go_wp2_with fail
        refine HC.out.mono ?_
        rintro e w5 ⟨rfl, hR1, hg⟩
        have hO1 : Grommet.Own w w5 [boxP Z 24 #[.int .u8 0, .int .u8 0, .int .u64 0, .int .u64 0, .int .u64 0, .string ⟨#[]⟩, .string ⟨#[]⟩, .string ⟨#[]⟩], rtP w X (bs.drop a1) t1, boxP R 24 #[.int .u8 (k : Int), .int .u8 0, .int .u64 0, .int .u64 0, .int .u64 0, .string ⟨#[]⟩, .string ⟨#[]⟩, .string ⟨#[]⟩]] := HS.out w5 _ _ hR1 hg
        obtain ⟨y, yz⟩ := own_cellB hO1 2 rfl 5 (u := .string ⟨#[]⟩) rfl
        have hOn := own_put hO1 2 rfl 5 (.string (str v1))
        clear hO HC HS hR1 hg hO1 c0
        go_upto_region 7 with fail
        generalize World.setCell _ _ _ = wn at hOn ⊢
        have hO : Hid (Grommet.Own w wn [boxP Z 24 #[.int .u8 0, .int .u8 0, .int .u64 0, .int .u64 0, .int .u64 0, .string ⟨#[]⟩, .string ⟨#[]⟩, .string ⟨#[]⟩], rtP w X (bs.drop a1) t1, boxP R 24 #[.int .u8 (k : Int), .int .u8 0, .int .u64 0, .int .u64 0, .int .u64 0, .string (str v1), .string ⟨#[]⟩, .string ⟨#[]⟩]]) := Lib.hid hOn
        clear hOn y yz
        obtain ⟨hRT, HS⟩ := own_rt hO.out 1 rfl
        have HC := RNum_any w.heap.size X bs a1 t1 wn hRT
        have Hle2 : Hid ((numberR bs a1 t1).2.1 ≤ bs.length) := Lib.hid (numberR_le bs a1 t1 Hle1.out)
        have Hln2 : Hid ((numberR bs a1 t1).1 < 2 ^ 64) := Lib.hid (numberR_lt bs a1 t1)
        obtain ⟨v2, hv2⟩ : ∃ v, (numberR bs a1 t1).1 = v := ⟨_, rfl⟩
        obtain ⟨a2, ha2⟩ : ∃ v, (numberR bs a1 t1).2.1 = v := ⟨_, rfl⟩
        obtain ⟨t2, ht2⟩ : ∃ v, (numberR bs a1 t1).2.2 = v := ⟨_, rfl⟩
        rw [hv2, ha2, ht2] at HC
        rw [ha2] at Hle2
        rw [hv2] at Hln2
        have Hv2 := Lib.hid hv2
        have Ha2 := Lib.hid ha2
        have Ht2 := Lib.hid ht2
        replace HS := Lib.hid HS
        replace HC := Lib.hid HC
        clear hRT hv2 ha2 ht2
        go_wp2_with fail
        refine HC.out.mono ?_
        rintro e w6 ⟨rfl, hR1, hg⟩
        have hO1 : Grommet.Own w w6 [boxP Z 24 #[.int .u8 0, .int .u8 0, .int .u64 0, .int .u64 0, .int .u64 0, .string ⟨#[]⟩, .string ⟨#[]⟩, .string ⟨#[]⟩], rtP w X (bs.drop a2) t2, boxP R 24 #[.int .u8 (k : Int), .int .u8 0, .int .u64 0, .int .u64 0, .int .u64 0, .string (str v1), .string ⟨#[]⟩, .string ⟨#[]⟩]] := HS.out w6 _ _ hR1 hg
        obtain ⟨y, yz⟩ := own_cellB hO1 2 rfl 1 (u := .int .u8 0) rfl
        obtain ⟨f, hf⟩ : ∃ f, min v2 255 = f := ⟨_, rfl⟩
        have Hf := Lib.hid hf
        have hmin : (if (255 : Int) < (v2 : Int) then (255 : Int) else (v2 : Int)) = (f : Int) := by split <;> omega
        have hmn : min (v2 : Int) 255 = (f : Int) := by omega
        have wf : IntKind.u8.wrap (f : Int) = (f : Int) := IntWalk.u8_in _ ⟨by omega, by omega⟩
        clear hf
        have hOn := own_put hO1 2 rfl 1 (.int .u8 (f : Int))
        clear hO HC HS hR1 hg hO1
        go_wp2_with fail
        have HF : Hid (FinQ bs (Rq.mk k f 0 0 0 (str v1) ⟨#[]⟩ ⟨#[]⟩) a2 t2) := Lib.hid (fin_of ⟨Hk0.out, (by have := Hf.out; show f < 256; omega), (by show 0 < 18446744073709551616; omega), (by show 0 < 18446744073709551616; omega), (by show 0 < 18446744073709551616; omega)⟩ (fun hb => by have hE := getE_two (bs := bs) (Hk0e.out.trans Hk.out) (f := .path) (g := .flags) rfl; have hb2 := (getB_parts hb).1; rw [hE] at hb2 ⊢; simp only [getF, get0, Hk0e.out, Ha0.out, Ht0.out, Hv1.out, Ha1.out, Ht1.out, Hv2.out, Ha2.out, Ht2.out, Bool.true_and, decide_eq_true_eq] at hb2 ⊢; have := Hf.out; rw [show f = v2 % 256 by omega]; refine ⟨?_, ?_, ?_⟩ <;> first | rfl | trivial))
        go_meet
        case rel => exact ⟨(Rq.mk k f 0 0 0 (str v1) ⟨#[]⟩ ⟨#[]⟩), a2, t2, Lib.hid ⟨Hk0.out, (by have := Hf.out; show f < 256; omega), (by show 0 < 18446744073709551616; omega), (by show 0 < 18446744073709551616; omega), (by show 0 < 18446744073709551616; omega)⟩, HF, Hle2, Lib.hid hOn⟩
    · skip
      as_aux_lemma =>
        have Hk : Hid (k = 2) := Lib.hid hk
        have q1 : ((k : Int) == 1) = false := by rw [hk]; rfl
        have q2 : ((k : Int) == 2) = true := by rw [hk]; rfl
        have q3 : ((k : Int) == 3) = false := by rw [hk]; rfl
        have q4 : ((k : Int) == 4) = false := by rw [hk]; rfl
        have q5 : ((k : Int) == 5) = false := by rw [hk]; rfl
        have q6 : ((k : Int) == 6) = false := by rw [hk]; rfl
        have q10 : ((k : Int) == 10) = false := by rw [hk]; rfl
        have q12 : ((k : Int) == 12) = false := by rw [hk]; rfl
        have q13 : ((k : Int) == 13) = false := by rw [hk]; rfl
        clear hk
        have Hle0 := Hla
        obtain ⟨hRT, HS⟩ := own_rt hO.out 1 rfl
        have HC := RNum_any w.heap.size X bs a0 t0 w4 hRT
        have Hle1 : Hid ((numberR bs a0 t0).2.1 ≤ bs.length) := Lib.hid (numberR_le bs a0 t0 Hle0.out)
        have Hln1 : Hid ((numberR bs a0 t0).1 < 2 ^ 64) := Lib.hid (numberR_lt bs a0 t0)
        obtain ⟨v1, hv1⟩ : ∃ v, (numberR bs a0 t0).1 = v := ⟨_, rfl⟩
        obtain ⟨a1, ha1⟩ : ∃ v, (numberR bs a0 t0).2.1 = v := ⟨_, rfl⟩
        obtain ⟨t1, ht1⟩ : ∃ v, (numberR bs a0 t0).2.2 = v := ⟨_, rfl⟩
        rw [hv1, ha1, ht1] at HC
        rw [ha1] at Hle1
        rw [hv1] at Hln1
        have Hv1 := Lib.hid hv1
        have Ha1 := Lib.hid ha1
        have Ht1 := Lib.hid ht1
        replace HS := Lib.hid HS
        replace HC := Lib.hid HC
        clear hRT hv1 ha1 ht1
        go_wp2_with fail
        refine HC.out.mono ?_
        rintro e w5 ⟨rfl, hR1, hg⟩
        have hO1 : Grommet.Own w w5 [boxP Z 24 #[.int .u8 0, .int .u8 0, .int .u64 0, .int .u64 0, .int .u64 0, .string ⟨#[]⟩, .string ⟨#[]⟩, .string ⟨#[]⟩], rtP w X (bs.drop a1) t1, boxP R 24 #[.int .u8 (k : Int), .int .u8 0, .int .u64 0, .int .u64 0, .int .u64 0, .string ⟨#[]⟩, .string ⟨#[]⟩, .string ⟨#[]⟩]] := HS.out w5 _ _ hR1 hg
        obtain ⟨y, yz⟩ := own_cellB hO1 2 rfl 2 (u := .int .u64 0) rfl
        have hOn := own_put hO1 2 rfl 2 (.int .u64 (v1 : Int))
        clear hO HC HS hR1 hg hO1 c0
        go_wp2_with fail
        have HF : Hid (FinQ bs (Rq.mk k 0 v1 0 0 ⟨#[]⟩ ⟨#[]⟩ ⟨#[]⟩) a1 t1) := Lib.hid (fin_of ⟨Hk0.out, (by show 0 < 256; omega), (by have := Hln1.out; show v1 < 18446744073709551616; omega), (by show 0 < 18446744073709551616; omega), (by show 0 < 18446744073709551616; omega)⟩ (fun hb => by have hE := getE_one (bs := bs) (Hk0e.out.trans Hk.out) (f := .fd) rfl; rw [hE]; simp only [getF, get0, Hk0e.out, Ha0.out, Ht0.out, Hv1.out, Ha1.out, Ht1.out]; refine ⟨?_, ?_, ?_⟩ <;> first | rfl | trivial))
        go_meet
        case rel => exact ⟨(Rq.mk k 0 v1 0 0 ⟨#[]⟩ ⟨#[]⟩ ⟨#[]⟩), a1, t1, Lib.hid ⟨Hk0.out, (by show 0 < 256; omega), (by have := Hln1.out; show v1 < 18446744073709551616; omega), (by show 0 < 18446744073709551616; omega), (by show 0 < 18446744073709551616; omega)⟩, HF, Hle1, Lib.hid hOn⟩
    · skip
      as_aux_lemma =>
        have Hk : Hid (k = 3) := Lib.hid hk
        have q1 : ((k : Int) == 1) = false := by rw [hk]; rfl
        have q2 : ((k : Int) == 2) = false := by rw [hk]; rfl
        have q3 : ((k : Int) == 3) = true := by rw [hk]; rfl
        have q4 : ((k : Int) == 4) = false := by rw [hk]; rfl
        have q5 : ((k : Int) == 5) = false := by rw [hk]; rfl
        have q6 : ((k : Int) == 6) = false := by rw [hk]; rfl
        have q10 : ((k : Int) == 10) = false := by rw [hk]; rfl
        have q12 : ((k : Int) == 12) = false := by rw [hk]; rfl
        have q13 : ((k : Int) == 13) = false := by rw [hk]; rfl
        clear hk
        have Hle0 := Hla
        obtain ⟨hRT, HS⟩ := own_rt hO.out 1 rfl
        have HC := RNum_any w.heap.size X bs a0 t0 w4 hRT
        have Hle1 : Hid ((numberR bs a0 t0).2.1 ≤ bs.length) := Lib.hid (numberR_le bs a0 t0 Hle0.out)
        have Hln1 : Hid ((numberR bs a0 t0).1 < 2 ^ 64) := Lib.hid (numberR_lt bs a0 t0)
        obtain ⟨v1, hv1⟩ : ∃ v, (numberR bs a0 t0).1 = v := ⟨_, rfl⟩
        obtain ⟨a1, ha1⟩ : ∃ v, (numberR bs a0 t0).2.1 = v := ⟨_, rfl⟩
        obtain ⟨t1, ht1⟩ : ∃ v, (numberR bs a0 t0).2.2 = v := ⟨_, rfl⟩
        rw [hv1, ha1, ht1] at HC
        rw [ha1] at Hle1
        rw [hv1] at Hln1
        have Hv1 := Lib.hid hv1
        have Ha1 := Lib.hid ha1
        have Ht1 := Lib.hid ht1
        replace HS := Lib.hid HS
        replace HC := Lib.hid HC
        clear hRT hv1 ha1 ht1
        go_wp2_with fail
        refine HC.out.mono ?_
        rintro e w5 ⟨rfl, hR1, hg⟩
        have hO1 : Grommet.Own w w5 [boxP Z 24 #[.int .u8 0, .int .u8 0, .int .u64 0, .int .u64 0, .int .u64 0, .string ⟨#[]⟩, .string ⟨#[]⟩, .string ⟨#[]⟩], rtP w X (bs.drop a1) t1, boxP R 24 #[.int .u8 (k : Int), .int .u8 0, .int .u64 0, .int .u64 0, .int .u64 0, .string ⟨#[]⟩, .string ⟨#[]⟩, .string ⟨#[]⟩]] := HS.out w5 _ _ hR1 hg
        obtain ⟨y, yz⟩ := own_cellB hO1 2 rfl 2 (u := .int .u64 0) rfl
        have hOn := own_put hO1 2 rfl 2 (.int .u64 (v1 : Int))
        clear hO HC HS hR1 hg hO1 c0
        go_upto_region 12 with fail
        generalize World.setCell _ _ _ = wn at hOn ⊢
        have hO : Hid (Grommet.Own w wn [boxP Z 24 #[.int .u8 0, .int .u8 0, .int .u64 0, .int .u64 0, .int .u64 0, .string ⟨#[]⟩, .string ⟨#[]⟩, .string ⟨#[]⟩], rtP w X (bs.drop a1) t1, boxP R 24 #[.int .u8 (k : Int), .int .u8 0, .int .u64 (v1 : Int), .int .u64 0, .int .u64 0, .string ⟨#[]⟩, .string ⟨#[]⟩, .string ⟨#[]⟩]]) := Lib.hid hOn
        clear hOn y yz
        obtain ⟨hRT, HS⟩ := own_rt hO.out 1 rfl
        have HC := RNum_any w.heap.size X bs a1 t1 wn hRT
        have Hle2 : Hid ((numberR bs a1 t1).2.1 ≤ bs.length) := Lib.hid (numberR_le bs a1 t1 Hle1.out)
        have Hln2 : Hid ((numberR bs a1 t1).1 < 2 ^ 64) := Lib.hid (numberR_lt bs a1 t1)
        obtain ⟨v2, hv2⟩ : ∃ v, (numberR bs a1 t1).1 = v := ⟨_, rfl⟩
        obtain ⟨a2, ha2⟩ : ∃ v, (numberR bs a1 t1).2.1 = v := ⟨_, rfl⟩
        obtain ⟨t2, ht2⟩ : ∃ v, (numberR bs a1 t1).2.2 = v := ⟨_, rfl⟩
        rw [hv2, ha2, ht2] at HC
        rw [ha2] at Hle2
        rw [hv2] at Hln2
        have Hv2 := Lib.hid hv2
        have Ha2 := Lib.hid ha2
        have Ht2 := Lib.hid ht2
        replace HS := Lib.hid HS
        replace HC := Lib.hid HC
        clear hRT hv2 ha2 ht2
        go_wp2_with fail
        refine HC.out.mono ?_
        rintro e w6 ⟨rfl, hR1, hg⟩
        have hO1 : Grommet.Own w w6 [boxP Z 24 #[.int .u8 0, .int .u8 0, .int .u64 0, .int .u64 0, .int .u64 0, .string ⟨#[]⟩, .string ⟨#[]⟩, .string ⟨#[]⟩], rtP w X (bs.drop a2) t2, boxP R 24 #[.int .u8 (k : Int), .int .u8 0, .int .u64 (v1 : Int), .int .u64 0, .int .u64 0, .string ⟨#[]⟩, .string ⟨#[]⟩, .string ⟨#[]⟩]] := HS.out w6 _ _ hR1 hg
        obtain ⟨y, yz⟩ := own_cellB hO1 2 rfl 4 (u := .int .u64 0) rfl
        have hOn := own_put hO1 2 rfl 4 (.int .u64 (v2 : Int))
        clear hO HC HS hR1 hg hO1
        go_wp2_with fail
        have HF : Hid (FinQ bs (Rq.mk k 0 v1 0 v2 ⟨#[]⟩ ⟨#[]⟩ ⟨#[]⟩) a2 t2) := Lib.hid (fin_of ⟨Hk0.out, (by show 0 < 256; omega), (by have := Hln1.out; show v1 < 18446744073709551616; omega), (by show 0 < 18446744073709551616; omega), (by have := Hln2.out; show v2 < 18446744073709551616; omega)⟩ (fun hb => by have hE := getE_two (bs := bs) (Hk0e.out.trans Hk.out) (f := .fd) (g := .size) rfl; rw [hE]; simp only [getF, get0, Hk0e.out, Ha0.out, Ht0.out, Hv1.out, Ha1.out, Ht1.out, Hv2.out, Ha2.out, Ht2.out]; refine ⟨?_, ?_, ?_⟩ <;> first | rfl | trivial))
        go_meet
        case rel => exact ⟨(Rq.mk k 0 v1 0 v2 ⟨#[]⟩ ⟨#[]⟩ ⟨#[]⟩), a2, t2, Lib.hid ⟨Hk0.out, (by show 0 < 256; omega), (by have := Hln1.out; show v1 < 18446744073709551616; omega), (by show 0 < 18446744073709551616; omega), (by have := Hln2.out; show v2 < 18446744073709551616; omega)⟩, HF, Hle2, Lib.hid hOn⟩
    · skip
      as_aux_lemma =>
        have Hk : Hid (k = 4) := Lib.hid hk
        have q1 : ((k : Int) == 1) = false := by rw [hk]; rfl
        have q2 : ((k : Int) == 2) = false := by rw [hk]; rfl
        have q3 : ((k : Int) == 3) = false := by rw [hk]; rfl
        have q4 : ((k : Int) == 4) = true := by rw [hk]; rfl
        have q5 : ((k : Int) == 5) = false := by rw [hk]; rfl
        have q6 : ((k : Int) == 6) = false := by rw [hk]; rfl
        have q10 : ((k : Int) == 10) = false := by rw [hk]; rfl
        have q12 : ((k : Int) == 12) = false := by rw [hk]; rfl
        have q13 : ((k : Int) == 13) = false := by rw [hk]; rfl
        clear hk
        have Hle0 := Hla
        obtain ⟨hRT, HS⟩ := own_rt hO.out 1 rfl
        have HC := RNum_any w.heap.size X bs a0 t0 w4 hRT
        have Hle1 : Hid ((numberR bs a0 t0).2.1 ≤ bs.length) := Lib.hid (numberR_le bs a0 t0 Hle0.out)
        have Hln1 : Hid ((numberR bs a0 t0).1 < 2 ^ 64) := Lib.hid (numberR_lt bs a0 t0)
        obtain ⟨v1, hv1⟩ : ∃ v, (numberR bs a0 t0).1 = v := ⟨_, rfl⟩
        obtain ⟨a1, ha1⟩ : ∃ v, (numberR bs a0 t0).2.1 = v := ⟨_, rfl⟩
        obtain ⟨t1, ht1⟩ : ∃ v, (numberR bs a0 t0).2.2 = v := ⟨_, rfl⟩
        rw [hv1, ha1, ht1] at HC
        rw [ha1] at Hle1
        rw [hv1] at Hln1
        have Hv1 := Lib.hid hv1
        have Ha1 := Lib.hid ha1
        have Ht1 := Lib.hid ht1
        replace HS := Lib.hid HS
        replace HC := Lib.hid HC
        clear hRT hv1 ha1 ht1
        go_wp2_with fail
        refine HC.out.mono ?_
        rintro e w5 ⟨rfl, hR1, hg⟩
        have hO1 : Grommet.Own w w5 [boxP Z 24 #[.int .u8 0, .int .u8 0, .int .u64 0, .int .u64 0, .int .u64 0, .string ⟨#[]⟩, .string ⟨#[]⟩, .string ⟨#[]⟩], rtP w X (bs.drop a1) t1, boxP R 24 #[.int .u8 (k : Int), .int .u8 0, .int .u64 0, .int .u64 0, .int .u64 0, .string ⟨#[]⟩, .string ⟨#[]⟩, .string ⟨#[]⟩]] := HS.out w5 _ _ hR1 hg
        obtain ⟨y, yz⟩ := own_cellB hO1 2 rfl 2 (u := .int .u64 0) rfl
        have hOn := own_put hO1 2 rfl 2 (.int .u64 (v1 : Int))
        clear hO HC HS hR1 hg hO1 c0
        go_upto_region 15 with fail
        generalize World.setCell _ _ _ = wn at hOn ⊢
        have hO : Hid (Grommet.Own w wn [boxP Z 24 #[.int .u8 0, .int .u8 0, .int .u64 0, .int .u64 0, .int .u64 0, .string ⟨#[]⟩, .string ⟨#[]⟩, .string ⟨#[]⟩], rtP w X (bs.drop a1) t1, boxP R 24 #[.int .u8 (k : Int), .int .u8 0, .int .u64 (v1 : Int), .int .u64 0, .int .u64 0, .string ⟨#[]⟩, .string ⟨#[]⟩, .string ⟨#[]⟩]]) := Lib.hid hOn
        clear hOn y yz
        obtain ⟨hRT, HS⟩ := own_rt hO.out 1 rfl
        have HC := RText_step w.heap.size X bs a1 t1 128 wn (by decide) (by decide) hRT Hle1.out
        have Hle2 : Hid ((textR bs a1 t1 128).2.1 ≤ bs.length) := Lib.hid (textR_le bs a1 t1 128 Hle1.out)
        have Hln2 : Hid ((textR bs a1 t1 128).1.length ≤ bs.length) := Lib.hid (textR_len bs a1 t1 128)
        obtain ⟨v2, hv2⟩ : ∃ v, (textR bs a1 t1 128).1 = v := ⟨_, rfl⟩
        obtain ⟨a2, ha2⟩ : ∃ v, (textR bs a1 t1 128).2.1 = v := ⟨_, rfl⟩
        obtain ⟨t2, ht2⟩ : ∃ v, (textR bs a1 t1 128).2.2 = v := ⟨_, rfl⟩
        rw [hv2, ha2, ht2] at HC
        rw [ha2] at Hle2
        rw [hv2] at Hln2
        have Hv2 := Lib.hid hv2
        have Ha2 := Lib.hid ha2
        have Ht2 := Lib.hid ht2
        replace HS := Lib.hid HS
        replace HC := Lib.hid HC
        clear hRT hv2 ha2 ht2
        go_wp2_with fail
        refine HC.out.mono ?_
        rintro e w6 ⟨rfl, hR1, hg⟩
        have hO1 : Grommet.Own w w6 [boxP Z 24 #[.int .u8 0, .int .u8 0, .int .u64 0, .int .u64 0, .int .u64 0, .string ⟨#[]⟩, .string ⟨#[]⟩, .string ⟨#[]⟩], rtP w X (bs.drop a2) t2, boxP R 24 #[.int .u8 (k : Int), .int .u8 0, .int .u64 (v1 : Int), .int .u64 0, .int .u64 0, .string ⟨#[]⟩, .string ⟨#[]⟩, .string ⟨#[]⟩]] := HS.out w6 _ _ hR1 hg
        obtain ⟨y, yz⟩ := own_cellB hO1 2 rfl 7 (u := .string ⟨#[]⟩) rfl
        have hOn := own_put hO1 2 rfl 7 (.string (str v2))
        clear hO HC HS hR1 hg hO1
        go_wp2_with fail
        have HF : Hid (FinQ bs (Rq.mk k 0 v1 0 0 ⟨#[]⟩ ⟨#[]⟩ (str v2)) a2 t2) := Lib.hid (fin_of ⟨Hk0.out, (by show 0 < 256; omega), (by have := Hln1.out; show v1 < 18446744073709551616; omega), (by show 0 < 18446744073709551616; omega), (by show 0 < 18446744073709551616; omega)⟩ (fun hb => by have hE := getE_two (bs := bs) (Hk0e.out.trans Hk.out) (f := .fd) (g := .data) rfl; rw [hE]; simp only [getF, get0, Hk0e.out, Ha0.out, Ht0.out, Hv1.out, Ha1.out, Ht1.out, Hv2.out, Ha2.out, Ht2.out]; refine ⟨?_, ?_, ?_⟩ <;> first | rfl | trivial))
        go_meet
        case rel => exact ⟨(Rq.mk k 0 v1 0 0 ⟨#[]⟩ ⟨#[]⟩ (str v2)), a2, t2, Lib.hid ⟨Hk0.out, (by show 0 < 256; omega), (by have := Hln1.out; show v1 < 18446744073709551616; omega), (by show 0 < 18446744073709551616; omega), (by show 0 < 18446744073709551616; omega)⟩, HF, Hle2, Lib.hid hOn⟩
    · skip
      as_aux_lemma =>
        have Hk : Hid (k = 5) := Lib.hid hk
        have q1 : ((k : Int) == 1) = false := by rw [hk]; rfl
        have q2 : ((k : Int) == 2) = false := by rw [hk]; rfl
        have q3 : ((k : Int) == 3) = false := by rw [hk]; rfl
        have q4 : ((k : Int) == 4) = false := by rw [hk]; rfl
        have q5 : ((k : Int) == 5) = true := by rw [hk]; rfl
        have q6 : ((k : Int) == 6) = false := by rw [hk]; rfl
        have q10 : ((k : Int) == 10) = false := by rw [hk]; rfl
        have q12 : ((k : Int) == 12) = false := by rw [hk]; rfl
        have q13 : ((k : Int) == 13) = false := by rw [hk]; rfl
        clear hk
        have Hle0 := Hla
        obtain ⟨hRT, HS⟩ := own_rt hO.out 1 rfl
        have HC := RNum_any w.heap.size X bs a0 t0 w4 hRT
        have Hle1 : Hid ((numberR bs a0 t0).2.1 ≤ bs.length) := Lib.hid (numberR_le bs a0 t0 Hle0.out)
        have Hln1 : Hid ((numberR bs a0 t0).1 < 2 ^ 64) := Lib.hid (numberR_lt bs a0 t0)
        obtain ⟨v1, hv1⟩ : ∃ v, (numberR bs a0 t0).1 = v := ⟨_, rfl⟩
        obtain ⟨a1, ha1⟩ : ∃ v, (numberR bs a0 t0).2.1 = v := ⟨_, rfl⟩
        obtain ⟨t1, ht1⟩ : ∃ v, (numberR bs a0 t0).2.2 = v := ⟨_, rfl⟩
        rw [hv1, ha1, ht1] at HC
        rw [ha1] at Hle1
        rw [hv1] at Hln1
        have Hv1 := Lib.hid hv1
        have Ha1 := Lib.hid ha1
        have Ht1 := Lib.hid ht1
        replace HS := Lib.hid HS
        replace HC := Lib.hid HC
        clear hRT hv1 ha1 ht1
        go_wp2_with fail
        refine HC.out.mono ?_
        rintro e w5 ⟨rfl, hR1, hg⟩
        have hO1 : Grommet.Own w w5 [boxP Z 24 #[.int .u8 0, .int .u8 0, .int .u64 0, .int .u64 0, .int .u64 0, .string ⟨#[]⟩, .string ⟨#[]⟩, .string ⟨#[]⟩], rtP w X (bs.drop a1) t1, boxP R 24 #[.int .u8 (k : Int), .int .u8 0, .int .u64 0, .int .u64 0, .int .u64 0, .string ⟨#[]⟩, .string ⟨#[]⟩, .string ⟨#[]⟩]] := HS.out w5 _ _ hR1 hg
        obtain ⟨y, yz⟩ := own_cellB hO1 2 rfl 2 (u := .int .u64 0) rfl
        have hOn := own_put hO1 2 rfl 2 (.int .u64 (v1 : Int))
        clear hO HC HS hR1 hg hO1 c0
        go_upto_region 19 with fail
        generalize World.setCell _ _ _ = wn at hOn ⊢
        have hO : Hid (Grommet.Own w wn [boxP Z 24 #[.int .u8 0, .int .u8 0, .int .u64 0, .int .u64 0, .int .u64 0, .string ⟨#[]⟩, .string ⟨#[]⟩, .string ⟨#[]⟩], rtP w X (bs.drop a1) t1, boxP R 24 #[.int .u8 (k : Int), .int .u8 0, .int .u64 (v1 : Int), .int .u64 0, .int .u64 0, .string ⟨#[]⟩, .string ⟨#[]⟩, .string ⟨#[]⟩]]) := Lib.hid hOn
        clear hOn y yz
        obtain ⟨hRT, HS⟩ := own_rt hO.out 1 rfl
        have HC := RNum_any w.heap.size X bs a1 t1 wn hRT
        have Hle2 : Hid ((numberR bs a1 t1).2.1 ≤ bs.length) := Lib.hid (numberR_le bs a1 t1 Hle1.out)
        have Hln2 : Hid ((numberR bs a1 t1).1 < 2 ^ 64) := Lib.hid (numberR_lt bs a1 t1)
        obtain ⟨v2, hv2⟩ : ∃ v, (numberR bs a1 t1).1 = v := ⟨_, rfl⟩
        obtain ⟨a2, ha2⟩ : ∃ v, (numberR bs a1 t1).2.1 = v := ⟨_, rfl⟩
        obtain ⟨t2, ht2⟩ : ∃ v, (numberR bs a1 t1).2.2 = v := ⟨_, rfl⟩
        rw [hv2, ha2, ht2] at HC
        rw [ha2] at Hle2
        rw [hv2] at Hln2
        have Hv2 := Lib.hid hv2
        have Ha2 := Lib.hid ha2
        have Ht2 := Lib.hid ht2
        replace HS := Lib.hid HS
        replace HC := Lib.hid HC
        clear hRT hv2 ha2 ht2
        go_wp2_with fail
        refine HC.out.mono ?_
        rintro e w6 ⟨rfl, hR1, hg⟩
        have hO1 : Grommet.Own w w6 [boxP Z 24 #[.int .u8 0, .int .u8 0, .int .u64 0, .int .u64 0, .int .u64 0, .string ⟨#[]⟩, .string ⟨#[]⟩, .string ⟨#[]⟩], rtP w X (bs.drop a2) t2, boxP R 24 #[.int .u8 (k : Int), .int .u8 0, .int .u64 (v1 : Int), .int .u64 0, .int .u64 0, .string ⟨#[]⟩, .string ⟨#[]⟩, .string ⟨#[]⟩]] := HS.out w6 _ _ hR1 hg
        obtain ⟨y, yz⟩ := own_cellB hO1 2 rfl 3 (u := .int .u64 0) rfl
        have hOn := own_put hO1 2 rfl 3 (.int .u64 (v2 : Int))
        clear hO HC HS hR1 hg hO1
        go_wp2_with fail
        have HF : Hid (FinQ bs (Rq.mk k 0 v1 v2 0 ⟨#[]⟩ ⟨#[]⟩ ⟨#[]⟩) a2 t2) := Lib.hid (fin_of ⟨Hk0.out, (by show 0 < 256; omega), (by have := Hln1.out; show v1 < 18446744073709551616; omega), (by have := Hln2.out; show v2 < 18446744073709551616; omega), (by show 0 < 18446744073709551616; omega)⟩ (fun hb => by have hE := getE_two (bs := bs) (Hk0e.out.trans Hk.out) (f := .fd) (g := .at) rfl; rw [hE]; simp only [getF, get0, Hk0e.out, Ha0.out, Ht0.out, Hv1.out, Ha1.out, Ht1.out, Hv2.out, Ha2.out, Ht2.out]; refine ⟨?_, ?_, ?_⟩ <;> first | rfl | trivial))
        go_meet
        case rel => exact ⟨(Rq.mk k 0 v1 v2 0 ⟨#[]⟩ ⟨#[]⟩ ⟨#[]⟩), a2, t2, Lib.hid ⟨Hk0.out, (by show 0 < 256; omega), (by have := Hln1.out; show v1 < 18446744073709551616; omega), (by have := Hln2.out; show v2 < 18446744073709551616; omega), (by show 0 < 18446744073709551616; omega)⟩, HF, Hle2, Lib.hid hOn⟩
    · skip
      as_aux_lemma =>
        have Hk : Hid (k = 6) := Lib.hid hk
        have q1 : ((k : Int) == 1) = false := by rw [hk]; rfl
        have q2 : ((k : Int) == 2) = false := by rw [hk]; rfl
        have q3 : ((k : Int) == 3) = false := by rw [hk]; rfl
        have q4 : ((k : Int) == 4) = false := by rw [hk]; rfl
        have q5 : ((k : Int) == 5) = false := by rw [hk]; rfl
        have q6 : ((k : Int) == 6) = true := by rw [hk]; rfl
        have q10 : ((k : Int) == 10) = false := by rw [hk]; rfl
        have q12 : ((k : Int) == 12) = false := by rw [hk]; rfl
        have q13 : ((k : Int) == 13) = false := by rw [hk]; rfl
        clear hk
        have Hle0 := Hla
        obtain ⟨hRT, HS⟩ := own_rt hO.out 1 rfl
        have HC := RNum_any w.heap.size X bs a0 t0 w4 hRT
        have Hle1 : Hid ((numberR bs a0 t0).2.1 ≤ bs.length) := Lib.hid (numberR_le bs a0 t0 Hle0.out)
        have Hln1 : Hid ((numberR bs a0 t0).1 < 2 ^ 64) := Lib.hid (numberR_lt bs a0 t0)
        obtain ⟨v1, hv1⟩ : ∃ v, (numberR bs a0 t0).1 = v := ⟨_, rfl⟩
        obtain ⟨a1, ha1⟩ : ∃ v, (numberR bs a0 t0).2.1 = v := ⟨_, rfl⟩
        obtain ⟨t1, ht1⟩ : ∃ v, (numberR bs a0 t0).2.2 = v := ⟨_, rfl⟩
        rw [hv1, ha1, ht1] at HC
        rw [ha1] at Hle1
        rw [hv1] at Hln1
        have Hv1 := Lib.hid hv1
        have Ha1 := Lib.hid ha1
        have Ht1 := Lib.hid ht1
        replace HS := Lib.hid HS
        replace HC := Lib.hid HC
        clear hRT hv1 ha1 ht1
        go_wp2_with fail
        refine HC.out.mono ?_
        rintro e w5 ⟨rfl, hR1, hg⟩
        have hO1 : Grommet.Own w w5 [boxP Z 24 #[.int .u8 0, .int .u8 0, .int .u64 0, .int .u64 0, .int .u64 0, .string ⟨#[]⟩, .string ⟨#[]⟩, .string ⟨#[]⟩], rtP w X (bs.drop a1) t1, boxP R 24 #[.int .u8 (k : Int), .int .u8 0, .int .u64 0, .int .u64 0, .int .u64 0, .string ⟨#[]⟩, .string ⟨#[]⟩, .string ⟨#[]⟩]] := HS.out w5 _ _ hR1 hg
        obtain ⟨y, yz⟩ := own_cellB hO1 2 rfl 2 (u := .int .u64 0) rfl
        have hOn := own_put hO1 2 rfl 2 (.int .u64 (v1 : Int))
        clear hO HC HS hR1 hg hO1 c0
        go_upto_region 19 with fail
        generalize World.setCell _ _ _ = wn at hOn ⊢
        have hO : Hid (Grommet.Own w wn [boxP Z 24 #[.int .u8 0, .int .u8 0, .int .u64 0, .int .u64 0, .int .u64 0, .string ⟨#[]⟩, .string ⟨#[]⟩, .string ⟨#[]⟩], rtP w X (bs.drop a1) t1, boxP R 24 #[.int .u8 (k : Int), .int .u8 0, .int .u64 (v1 : Int), .int .u64 0, .int .u64 0, .string ⟨#[]⟩, .string ⟨#[]⟩, .string ⟨#[]⟩]]) := Lib.hid hOn
        clear hOn y yz
        obtain ⟨hRT, HS⟩ := own_rt hO.out 1 rfl
        have HC := RNum_any w.heap.size X bs a1 t1 wn hRT
        have Hle2 : Hid ((numberR bs a1 t1).2.1 ≤ bs.length) := Lib.hid (numberR_le bs a1 t1 Hle1.out)
        have Hln2 : Hid ((numberR bs a1 t1).1 < 2 ^ 64) := Lib.hid (numberR_lt bs a1 t1)
        obtain ⟨v2, hv2⟩ : ∃ v, (numberR bs a1 t1).1 = v := ⟨_, rfl⟩
        obtain ⟨a2, ha2⟩ : ∃ v, (numberR bs a1 t1).2.1 = v := ⟨_, rfl⟩
        obtain ⟨t2, ht2⟩ : ∃ v, (numberR bs a1 t1).2.2 = v := ⟨_, rfl⟩
        rw [hv2, ha2, ht2] at HC
        rw [ha2] at Hle2
        rw [hv2] at Hln2
        have Hv2 := Lib.hid hv2
        have Ha2 := Lib.hid ha2
        have Ht2 := Lib.hid ht2
        replace HS := Lib.hid HS
        replace HC := Lib.hid HC
        clear hRT hv2 ha2 ht2
        go_wp2_with fail
        refine HC.out.mono ?_
        rintro e w6 ⟨rfl, hR1, hg⟩
        have hO1 : Grommet.Own w w6 [boxP Z 24 #[.int .u8 0, .int .u8 0, .int .u64 0, .int .u64 0, .int .u64 0, .string ⟨#[]⟩, .string ⟨#[]⟩, .string ⟨#[]⟩], rtP w X (bs.drop a2) t2, boxP R 24 #[.int .u8 (k : Int), .int .u8 0, .int .u64 (v1 : Int), .int .u64 0, .int .u64 0, .string ⟨#[]⟩, .string ⟨#[]⟩, .string ⟨#[]⟩]] := HS.out w6 _ _ hR1 hg
        obtain ⟨y, yz⟩ := own_cellB hO1 2 rfl 3 (u := .int .u64 0) rfl
        have hOn := own_put hO1 2 rfl 3 (.int .u64 (v2 : Int))
        clear hO HC HS hR1 hg hO1
        go_wp2_with fail
        have HF : Hid (FinQ bs (Rq.mk k 0 v1 v2 0 ⟨#[]⟩ ⟨#[]⟩ ⟨#[]⟩) a2 t2) := Lib.hid (fin_of ⟨Hk0.out, (by show 0 < 256; omega), (by have := Hln1.out; show v1 < 18446744073709551616; omega), (by have := Hln2.out; show v2 < 18446744073709551616; omega), (by show 0 < 18446744073709551616; omega)⟩ (fun hb => by have hE := getE_two (bs := bs) (Hk0e.out.trans Hk.out) (f := .fd) (g := .at) rfl; rw [hE]; simp only [getF, get0, Hk0e.out, Ha0.out, Ht0.out, Hv1.out, Ha1.out, Ht1.out, Hv2.out, Ha2.out, Ht2.out]; refine ⟨?_, ?_, ?_⟩ <;> first | rfl | trivial))
        go_meet
        case rel => exact ⟨(Rq.mk k 0 v1 v2 0 ⟨#[]⟩ ⟨#[]⟩ ⟨#[]⟩), a2, t2, Lib.hid ⟨Hk0.out, (by show 0 < 256; omega), (by have := Hln1.out; show v1 < 18446744073709551616; omega), (by have := Hln2.out; show v2 < 18446744073709551616; omega), (by show 0 < 18446744073709551616; omega)⟩, HF, Hle2, Lib.hid hOn⟩
    · skip
      as_aux_lemma =>
        have Hk : Hid (k = 7) := Lib.hid hk
        have q1 : ((k : Int) == 1) = false := by rw [hk]; rfl
        have q2 : ((k : Int) == 2) = false := by rw [hk]; rfl
        have q3 : ((k : Int) == 3) = false := by rw [hk]; rfl
        have q4 : ((k : Int) == 4) = false := by rw [hk]; rfl
        have q5 : ((k : Int) == 5) = false := by rw [hk]; rfl
        have q6 : ((k : Int) == 6) = false := by rw [hk]; rfl
        have q10 : ((k : Int) == 10) = false := by rw [hk]; rfl
        have q12 : ((k : Int) == 12) = false := by rw [hk]; rfl
        have q13 : ((k : Int) == 13) = false := by rw [hk]; rfl
        clear hk
        have Hle0 := Hla
        obtain ⟨hRT, HS⟩ := own_rt hO.out 1 rfl
        have HC := RText_step w.heap.size X bs a0 t0 200 w4 (by decide) (by decide) hRT Hle0.out
        have Hle1 : Hid ((textR bs a0 t0 200).2.1 ≤ bs.length) := Lib.hid (textR_le bs a0 t0 200 Hle0.out)
        have Hln1 : Hid ((textR bs a0 t0 200).1.length ≤ bs.length) := Lib.hid (textR_len bs a0 t0 200)
        obtain ⟨v1, hv1⟩ : ∃ v, (textR bs a0 t0 200).1 = v := ⟨_, rfl⟩
        obtain ⟨a1, ha1⟩ : ∃ v, (textR bs a0 t0 200).2.1 = v := ⟨_, rfl⟩
        obtain ⟨t1, ht1⟩ : ∃ v, (textR bs a0 t0 200).2.2 = v := ⟨_, rfl⟩
        rw [hv1, ha1, ht1] at HC
        rw [ha1] at Hle1
        rw [hv1] at Hln1
        have Hv1 := Lib.hid hv1
        have Ha1 := Lib.hid ha1
        have Ht1 := Lib.hid ht1
        replace HS := Lib.hid HS
        replace HC := Lib.hid HC
        clear hRT hv1 ha1 ht1
        go_wp2_with fail
        refine HC.out.mono ?_
        rintro e w5 ⟨rfl, hR1, hg⟩
        have hO1 : Grommet.Own w w5 [boxP Z 24 #[.int .u8 0, .int .u8 0, .int .u64 0, .int .u64 0, .int .u64 0, .string ⟨#[]⟩, .string ⟨#[]⟩, .string ⟨#[]⟩], rtP w X (bs.drop a1) t1, boxP R 24 #[.int .u8 (k : Int), .int .u8 0, .int .u64 0, .int .u64 0, .int .u64 0, .string ⟨#[]⟩, .string ⟨#[]⟩, .string ⟨#[]⟩]] := HS.out w5 _ _ hR1 hg
        obtain ⟨y, yz⟩ := own_cellB hO1 2 rfl 5 (u := .string ⟨#[]⟩) rfl
        have hOn := own_put hO1 2 rfl 5 (.string (str v1))
        clear hO HC HS hR1 hg hO1 c0
        go_wp2_with fail
        have HF : Hid (FinQ bs (Rq.mk k 0 0 0 0 (str v1) ⟨#[]⟩ ⟨#[]⟩) a1 t1) := Lib.hid (fin_of ⟨Hk0.out, (by show 0 < 256; omega), (by show 0 < 18446744073709551616; omega), (by show 0 < 18446744073709551616; omega), (by show 0 < 18446744073709551616; omega)⟩ (fun hb => by have hE := getE_one (bs := bs) (Hk0e.out.trans Hk.out) (f := .path) rfl; rw [hE]; simp only [getF, get0, Hk0e.out, Ha0.out, Ht0.out, Hv1.out, Ha1.out, Ht1.out]; refine ⟨?_, ?_, ?_⟩ <;> first | rfl | trivial))
        go_meet
        case rel => exact ⟨(Rq.mk k 0 0 0 0 (str v1) ⟨#[]⟩ ⟨#[]⟩), a1, t1, Lib.hid ⟨Hk0.out, (by show 0 < 256; omega), (by show 0 < 18446744073709551616; omega), (by show 0 < 18446744073709551616; omega), (by show 0 < 18446744073709551616; omega)⟩, HF, Hle1, Lib.hid hOn⟩
    · skip
      as_aux_lemma =>
        have Hk : Hid (k = 8) := Lib.hid hk
        have q1 : ((k : Int) == 1) = false := by rw [hk]; rfl
        have q2 : ((k : Int) == 2) = false := by rw [hk]; rfl
        have q3 : ((k : Int) == 3) = false := by rw [hk]; rfl
        have q4 : ((k : Int) == 4) = false := by rw [hk]; rfl
        have q5 : ((k : Int) == 5) = false := by rw [hk]; rfl
        have q6 : ((k : Int) == 6) = false := by rw [hk]; rfl
        have q10 : ((k : Int) == 10) = false := by rw [hk]; rfl
        have q12 : ((k : Int) == 12) = false := by rw [hk]; rfl
        have q13 : ((k : Int) == 13) = false := by rw [hk]; rfl
        clear hk
        have Hle0 := Hla
        obtain ⟨hRT, HS⟩ := own_rt hO.out 1 rfl
        have HC := RText_step w.heap.size X bs a0 t0 200 w4 (by decide) (by decide) hRT Hle0.out
        have Hle1 : Hid ((textR bs a0 t0 200).2.1 ≤ bs.length) := Lib.hid (textR_le bs a0 t0 200 Hle0.out)
        have Hln1 : Hid ((textR bs a0 t0 200).1.length ≤ bs.length) := Lib.hid (textR_len bs a0 t0 200)
        obtain ⟨v1, hv1⟩ : ∃ v, (textR bs a0 t0 200).1 = v := ⟨_, rfl⟩
        obtain ⟨a1, ha1⟩ : ∃ v, (textR bs a0 t0 200).2.1 = v := ⟨_, rfl⟩
        obtain ⟨t1, ht1⟩ : ∃ v, (textR bs a0 t0 200).2.2 = v := ⟨_, rfl⟩
        rw [hv1, ha1, ht1] at HC
        rw [ha1] at Hle1
        rw [hv1] at Hln1
        have Hv1 := Lib.hid hv1
        have Ha1 := Lib.hid ha1
        have Ht1 := Lib.hid ht1
        replace HS := Lib.hid HS
        replace HC := Lib.hid HC
        clear hRT hv1 ha1 ht1
        go_wp2_with fail
        refine HC.out.mono ?_
        rintro e w5 ⟨rfl, hR1, hg⟩
        have hO1 : Grommet.Own w w5 [boxP Z 24 #[.int .u8 0, .int .u8 0, .int .u64 0, .int .u64 0, .int .u64 0, .string ⟨#[]⟩, .string ⟨#[]⟩, .string ⟨#[]⟩], rtP w X (bs.drop a1) t1, boxP R 24 #[.int .u8 (k : Int), .int .u8 0, .int .u64 0, .int .u64 0, .int .u64 0, .string ⟨#[]⟩, .string ⟨#[]⟩, .string ⟨#[]⟩]] := HS.out w5 _ _ hR1 hg
        obtain ⟨y, yz⟩ := own_cellB hO1 2 rfl 5 (u := .string ⟨#[]⟩) rfl
        have hOn := own_put hO1 2 rfl 5 (.string (str v1))
        clear hO HC HS hR1 hg hO1 c0
        go_wp2_with fail
        have HF : Hid (FinQ bs (Rq.mk k 0 0 0 0 (str v1) ⟨#[]⟩ ⟨#[]⟩) a1 t1) := Lib.hid (fin_of ⟨Hk0.out, (by show 0 < 256; omega), (by show 0 < 18446744073709551616; omega), (by show 0 < 18446744073709551616; omega), (by show 0 < 18446744073709551616; omega)⟩ (fun hb => by have hE := getE_one (bs := bs) (Hk0e.out.trans Hk.out) (f := .path) rfl; rw [hE]; simp only [getF, get0, Hk0e.out, Ha0.out, Ht0.out, Hv1.out, Ha1.out, Ht1.out]; refine ⟨?_, ?_, ?_⟩ <;> first | rfl | trivial))
        go_meet
        case rel => exact ⟨(Rq.mk k 0 0 0 0 (str v1) ⟨#[]⟩ ⟨#[]⟩), a1, t1, Lib.hid ⟨Hk0.out, (by show 0 < 256; omega), (by show 0 < 18446744073709551616; omega), (by show 0 < 18446744073709551616; omega), (by show 0 < 18446744073709551616; omega)⟩, HF, Hle1, Lib.hid hOn⟩
    · skip
      as_aux_lemma =>
        have Hk : Hid (k = 9) := Lib.hid hk
        have q1 : ((k : Int) == 1) = false := by rw [hk]; rfl
        have q2 : ((k : Int) == 2) = false := by rw [hk]; rfl
        have q3 : ((k : Int) == 3) = false := by rw [hk]; rfl
        have q4 : ((k : Int) == 4) = false := by rw [hk]; rfl
        have q5 : ((k : Int) == 5) = false := by rw [hk]; rfl
        have q6 : ((k : Int) == 6) = false := by rw [hk]; rfl
        have q10 : ((k : Int) == 10) = false := by rw [hk]; rfl
        have q12 : ((k : Int) == 12) = false := by rw [hk]; rfl
        have q13 : ((k : Int) == 13) = false := by rw [hk]; rfl
        clear hk
        have Hle0 := Hla
        obtain ⟨hRT, HS⟩ := own_rt hO.out 1 rfl
        have HC := RText_step w.heap.size X bs a0 t0 200 w4 (by decide) (by decide) hRT Hle0.out
        have Hle1 : Hid ((textR bs a0 t0 200).2.1 ≤ bs.length) := Lib.hid (textR_le bs a0 t0 200 Hle0.out)
        have Hln1 : Hid ((textR bs a0 t0 200).1.length ≤ bs.length) := Lib.hid (textR_len bs a0 t0 200)
        obtain ⟨v1, hv1⟩ : ∃ v, (textR bs a0 t0 200).1 = v := ⟨_, rfl⟩
        obtain ⟨a1, ha1⟩ : ∃ v, (textR bs a0 t0 200).2.1 = v := ⟨_, rfl⟩
        obtain ⟨t1, ht1⟩ : ∃ v, (textR bs a0 t0 200).2.2 = v := ⟨_, rfl⟩
        rw [hv1, ha1, ht1] at HC
        rw [ha1] at Hle1
        rw [hv1] at Hln1
        have Hv1 := Lib.hid hv1
        have Ha1 := Lib.hid ha1
        have Ht1 := Lib.hid ht1
        replace HS := Lib.hid HS
        replace HC := Lib.hid HC
        clear hRT hv1 ha1 ht1
        go_wp2_with fail
        refine HC.out.mono ?_
        rintro e w5 ⟨rfl, hR1, hg⟩
        have hO1 : Grommet.Own w w5 [boxP Z 24 #[.int .u8 0, .int .u8 0, .int .u64 0, .int .u64 0, .int .u64 0, .string ⟨#[]⟩, .string ⟨#[]⟩, .string ⟨#[]⟩], rtP w X (bs.drop a1) t1, boxP R 24 #[.int .u8 (k : Int), .int .u8 0, .int .u64 0, .int .u64 0, .int .u64 0, .string ⟨#[]⟩, .string ⟨#[]⟩, .string ⟨#[]⟩]] := HS.out w5 _ _ hR1 hg
        obtain ⟨y, yz⟩ := own_cellB hO1 2 rfl 5 (u := .string ⟨#[]⟩) rfl
        have hOn := own_put hO1 2 rfl 5 (.string (str v1))
        clear hO HC HS hR1 hg hO1 c0
        go_wp2_with fail
        have HF : Hid (FinQ bs (Rq.mk k 0 0 0 0 (str v1) ⟨#[]⟩ ⟨#[]⟩) a1 t1) := Lib.hid (fin_of ⟨Hk0.out, (by show 0 < 256; omega), (by show 0 < 18446744073709551616; omega), (by show 0 < 18446744073709551616; omega), (by show 0 < 18446744073709551616; omega)⟩ (fun hb => by have hE := getE_one (bs := bs) (Hk0e.out.trans Hk.out) (f := .path) rfl; rw [hE]; simp only [getF, get0, Hk0e.out, Ha0.out, Ht0.out, Hv1.out, Ha1.out, Ht1.out]; refine ⟨?_, ?_, ?_⟩ <;> first | rfl | trivial))
        go_meet
        case rel => exact ⟨(Rq.mk k 0 0 0 0 (str v1) ⟨#[]⟩ ⟨#[]⟩), a1, t1, Lib.hid ⟨Hk0.out, (by show 0 < 256; omega), (by show 0 < 18446744073709551616; omega), (by show 0 < 18446744073709551616; omega), (by show 0 < 18446744073709551616; omega)⟩, HF, Hle1, Lib.hid hOn⟩
    · skip
      as_aux_lemma =>
        have Hk : Hid (k = 10) := Lib.hid hk
        have q1 : ((k : Int) == 1) = false := by rw [hk]; rfl
        have q2 : ((k : Int) == 2) = false := by rw [hk]; rfl
        have q3 : ((k : Int) == 3) = false := by rw [hk]; rfl
        have q4 : ((k : Int) == 4) = false := by rw [hk]; rfl
        have q5 : ((k : Int) == 5) = false := by rw [hk]; rfl
        have q6 : ((k : Int) == 6) = false := by rw [hk]; rfl
        have q10 : ((k : Int) == 10) = true := by rw [hk]; rfl
        have q12 : ((k : Int) == 12) = false := by rw [hk]; rfl
        have q13 : ((k : Int) == 13) = false := by rw [hk]; rfl
        clear hk
        have Hle0 := Hla
        obtain ⟨hRT, HS⟩ := own_rt hO.out 1 rfl
        have HC := RText_step w.heap.size X bs a0 t0 200 w4 (by decide) (by decide) hRT Hle0.out
        have Hle1 : Hid ((textR bs a0 t0 200).2.1 ≤ bs.length) := Lib.hid (textR_le bs a0 t0 200 Hle0.out)
        have Hln1 : Hid ((textR bs a0 t0 200).1.length ≤ bs.length) := Lib.hid (textR_len bs a0 t0 200)
        obtain ⟨v1, hv1⟩ : ∃ v, (textR bs a0 t0 200).1 = v := ⟨_, rfl⟩
        obtain ⟨a1, ha1⟩ : ∃ v, (textR bs a0 t0 200).2.1 = v := ⟨_, rfl⟩
        obtain ⟨t1, ht1⟩ : ∃ v, (textR bs a0 t0 200).2.2 = v := ⟨_, rfl⟩
        rw [hv1, ha1, ht1] at HC
        rw [ha1] at Hle1
        rw [hv1] at Hln1
        have Hv1 := Lib.hid hv1
        have Ha1 := Lib.hid ha1
        have Ht1 := Lib.hid ht1
        replace HS := Lib.hid HS
        replace HC := Lib.hid HC
        clear hRT hv1 ha1 ht1
        go_wp2_with fail
        refine HC.out.mono ?_
        rintro e w5 ⟨rfl, hR1, hg⟩
        have hO1 : Grommet.Own w w5 [boxP Z 24 #[.int .u8 0, .int .u8 0, .int .u64 0, .int .u64 0, .int .u64 0, .string ⟨#[]⟩, .string ⟨#[]⟩, .string ⟨#[]⟩], rtP w X (bs.drop a1) t1, boxP R 24 #[.int .u8 (k : Int), .int .u8 0, .int .u64 0, .int .u64 0, .int .u64 0, .string ⟨#[]⟩, .string ⟨#[]⟩, .string ⟨#[]⟩]] := HS.out w5 _ _ hR1 hg
        obtain ⟨y, yz⟩ := own_cellB hO1 2 rfl 5 (u := .string ⟨#[]⟩) rfl
        have hOn := own_put hO1 2 rfl 5 (.string (str v1))
        clear hO HC HS hR1 hg hO1 c0
        go_upto_region 23 with fail
        generalize World.setCell _ _ _ = wn at hOn ⊢
        have hO : Hid (Grommet.Own w wn [boxP Z 24 #[.int .u8 0, .int .u8 0, .int .u64 0, .int .u64 0, .int .u64 0, .string ⟨#[]⟩, .string ⟨#[]⟩, .string ⟨#[]⟩], rtP w X (bs.drop a1) t1, boxP R 24 #[.int .u8 (k : Int), .int .u8 0, .int .u64 0, .int .u64 0, .int .u64 0, .string (str v1), .string ⟨#[]⟩, .string ⟨#[]⟩]]) := Lib.hid hOn
        clear hOn y yz
        obtain ⟨hRT, HS⟩ := own_rt hO.out 1 rfl
        have HC := RText_step w.heap.size X bs a1 t1 200 wn (by decide) (by decide) hRT Hle1.out
        have Hle2 : Hid ((textR bs a1 t1 200).2.1 ≤ bs.length) := Lib.hid (textR_le bs a1 t1 200 Hle1.out)
        have Hln2 : Hid ((textR bs a1 t1 200).1.length ≤ bs.length) := Lib.hid (textR_len bs a1 t1 200)
        obtain ⟨v2, hv2⟩ : ∃ v, (textR bs a1 t1 200).1 = v := ⟨_, rfl⟩
        obtain ⟨a2, ha2⟩ : ∃ v, (textR bs a1 t1 200).2.1 = v := ⟨_, rfl⟩
        obtain ⟨t2, ht2⟩ : ∃ v, (textR bs a1 t1 200).2.2 = v := ⟨_, rfl⟩
        rw [hv2, ha2, ht2] at HC
        rw [ha2] at Hle2
        rw [hv2] at Hln2
        have Hv2 := Lib.hid hv2
        have Ha2 := Lib.hid ha2
        have Ht2 := Lib.hid ht2
        replace HS := Lib.hid HS
        replace HC := Lib.hid HC
        clear hRT hv2 ha2 ht2
        go_wp2_with fail
        refine HC.out.mono ?_
        rintro e w6 ⟨rfl, hR1, hg⟩
        have hO1 : Grommet.Own w w6 [boxP Z 24 #[.int .u8 0, .int .u8 0, .int .u64 0, .int .u64 0, .int .u64 0, .string ⟨#[]⟩, .string ⟨#[]⟩, .string ⟨#[]⟩], rtP w X (bs.drop a2) t2, boxP R 24 #[.int .u8 (k : Int), .int .u8 0, .int .u64 0, .int .u64 0, .int .u64 0, .string (str v1), .string ⟨#[]⟩, .string ⟨#[]⟩]] := HS.out w6 _ _ hR1 hg
        obtain ⟨y, yz⟩ := own_cellB hO1 2 rfl 6 (u := .string ⟨#[]⟩) rfl
        have hOn := own_put hO1 2 rfl 6 (.string (str v2))
        clear hO HC HS hR1 hg hO1
        go_wp2_with fail
        have HF : Hid (FinQ bs (Rq.mk k 0 0 0 0 (str v1) (str v2) ⟨#[]⟩) a2 t2) := Lib.hid (fin_of ⟨Hk0.out, (by show 0 < 256; omega), (by show 0 < 18446744073709551616; omega), (by show 0 < 18446744073709551616; omega), (by show 0 < 18446744073709551616; omega)⟩ (fun hb => by have hE := getE_two (bs := bs) (Hk0e.out.trans Hk.out) (f := .path) (g := .to) rfl; rw [hE]; simp only [getF, get0, Hk0e.out, Ha0.out, Ht0.out, Hv1.out, Ha1.out, Ht1.out, Hv2.out, Ha2.out, Ht2.out]; refine ⟨?_, ?_, ?_⟩ <;> first | rfl | trivial))
        go_meet
        case rel => exact ⟨(Rq.mk k 0 0 0 0 (str v1) (str v2) ⟨#[]⟩), a2, t2, Lib.hid ⟨Hk0.out, (by show 0 < 256; omega), (by show 0 < 18446744073709551616; omega), (by show 0 < 18446744073709551616; omega), (by show 0 < 18446744073709551616; omega)⟩, HF, Hle2, Lib.hid hOn⟩
    · skip
      as_aux_lemma =>
        have Hk : Hid (k = 11) := Lib.hid hk
        have q1 : ((k : Int) == 1) = false := by rw [hk]; rfl
        have q2 : ((k : Int) == 2) = false := by rw [hk]; rfl
        have q3 : ((k : Int) == 3) = false := by rw [hk]; rfl
        have q4 : ((k : Int) == 4) = false := by rw [hk]; rfl
        have q5 : ((k : Int) == 5) = false := by rw [hk]; rfl
        have q6 : ((k : Int) == 6) = false := by rw [hk]; rfl
        have q10 : ((k : Int) == 10) = false := by rw [hk]; rfl
        have q12 : ((k : Int) == 12) = false := by rw [hk]; rfl
        have q13 : ((k : Int) == 13) = false := by rw [hk]; rfl
        clear hk
        have Hle0 := Hla
        obtain ⟨hRT, HS⟩ := own_rt hO.out 1 rfl
        have HC := RText_step w.heap.size X bs a0 t0 200 w4 (by decide) (by decide) hRT Hle0.out
        have Hle1 : Hid ((textR bs a0 t0 200).2.1 ≤ bs.length) := Lib.hid (textR_le bs a0 t0 200 Hle0.out)
        have Hln1 : Hid ((textR bs a0 t0 200).1.length ≤ bs.length) := Lib.hid (textR_len bs a0 t0 200)
        obtain ⟨v1, hv1⟩ : ∃ v, (textR bs a0 t0 200).1 = v := ⟨_, rfl⟩
        obtain ⟨a1, ha1⟩ : ∃ v, (textR bs a0 t0 200).2.1 = v := ⟨_, rfl⟩
        obtain ⟨t1, ht1⟩ : ∃ v, (textR bs a0 t0 200).2.2 = v := ⟨_, rfl⟩
        rw [hv1, ha1, ht1] at HC
        rw [ha1] at Hle1
        rw [hv1] at Hln1
        have Hv1 := Lib.hid hv1
        have Ha1 := Lib.hid ha1
        have Ht1 := Lib.hid ht1
        replace HS := Lib.hid HS
        replace HC := Lib.hid HC
        clear hRT hv1 ha1 ht1
        go_wp2_with fail
        refine HC.out.mono ?_
        rintro e w5 ⟨rfl, hR1, hg⟩
        have hO1 : Grommet.Own w w5 [boxP Z 24 #[.int .u8 0, .int .u8 0, .int .u64 0, .int .u64 0, .int .u64 0, .string ⟨#[]⟩, .string ⟨#[]⟩, .string ⟨#[]⟩], rtP w X (bs.drop a1) t1, boxP R 24 #[.int .u8 (k : Int), .int .u8 0, .int .u64 0, .int .u64 0, .int .u64 0, .string ⟨#[]⟩, .string ⟨#[]⟩, .string ⟨#[]⟩]] := HS.out w5 _ _ hR1 hg
        obtain ⟨y, yz⟩ := own_cellB hO1 2 rfl 5 (u := .string ⟨#[]⟩) rfl
        have hOn := own_put hO1 2 rfl 5 (.string (str v1))
        clear hO HC HS hR1 hg hO1 c0
        go_wp2_with fail
        have HF : Hid (FinQ bs (Rq.mk k 0 0 0 0 (str v1) ⟨#[]⟩ ⟨#[]⟩) a1 t1) := Lib.hid (fin_of ⟨Hk0.out, (by show 0 < 256; omega), (by show 0 < 18446744073709551616; omega), (by show 0 < 18446744073709551616; omega), (by show 0 < 18446744073709551616; omega)⟩ (fun hb => by have hE := getE_one (bs := bs) (Hk0e.out.trans Hk.out) (f := .path) rfl; rw [hE]; simp only [getF, get0, Hk0e.out, Ha0.out, Ht0.out, Hv1.out, Ha1.out, Ht1.out]; refine ⟨?_, ?_, ?_⟩ <;> first | rfl | trivial))
        go_meet
        case rel => exact ⟨(Rq.mk k 0 0 0 0 (str v1) ⟨#[]⟩ ⟨#[]⟩), a1, t1, Lib.hid ⟨Hk0.out, (by show 0 < 256; omega), (by show 0 < 18446744073709551616; omega), (by show 0 < 18446744073709551616; omega), (by show 0 < 18446744073709551616; omega)⟩, HF, Hle1, Lib.hid hOn⟩
    · skip
      as_aux_lemma =>
        have Hk : Hid (k = 12) := Lib.hid hk
        have q1 : ((k : Int) == 1) = false := by rw [hk]; rfl
        have q2 : ((k : Int) == 2) = false := by rw [hk]; rfl
        have q3 : ((k : Int) == 3) = false := by rw [hk]; rfl
        have q4 : ((k : Int) == 4) = false := by rw [hk]; rfl
        have q5 : ((k : Int) == 5) = false := by rw [hk]; rfl
        have q6 : ((k : Int) == 6) = false := by rw [hk]; rfl
        have q10 : ((k : Int) == 10) = false := by rw [hk]; rfl
        have q12 : ((k : Int) == 12) = true := by rw [hk]; rfl
        have q13 : ((k : Int) == 13) = false := by rw [hk]; rfl
        clear hk
        have Hle0 := Hla
        obtain ⟨hRT, HS⟩ := own_rt hO.out 1 rfl
        have HC := RText_step w.heap.size X bs a0 t0 200 w4 (by decide) (by decide) hRT Hle0.out
        have Hle1 : Hid ((textR bs a0 t0 200).2.1 ≤ bs.length) := Lib.hid (textR_le bs a0 t0 200 Hle0.out)
        have Hln1 : Hid ((textR bs a0 t0 200).1.length ≤ bs.length) := Lib.hid (textR_len bs a0 t0 200)
        obtain ⟨v1, hv1⟩ : ∃ v, (textR bs a0 t0 200).1 = v := ⟨_, rfl⟩
        obtain ⟨a1, ha1⟩ : ∃ v, (textR bs a0 t0 200).2.1 = v := ⟨_, rfl⟩
        obtain ⟨t1, ht1⟩ : ∃ v, (textR bs a0 t0 200).2.2 = v := ⟨_, rfl⟩
        rw [hv1, ha1, ht1] at HC
        rw [ha1] at Hle1
        rw [hv1] at Hln1
        have Hv1 := Lib.hid hv1
        have Ha1 := Lib.hid ha1
        have Ht1 := Lib.hid ht1
        replace HS := Lib.hid HS
        replace HC := Lib.hid HC
        clear hRT hv1 ha1 ht1
        go_wp2_with fail
        refine HC.out.mono ?_
        rintro e w5 ⟨rfl, hR1, hg⟩
        have hO1 : Grommet.Own w w5 [boxP Z 24 #[.int .u8 0, .int .u8 0, .int .u64 0, .int .u64 0, .int .u64 0, .string ⟨#[]⟩, .string ⟨#[]⟩, .string ⟨#[]⟩], rtP w X (bs.drop a1) t1, boxP R 24 #[.int .u8 (k : Int), .int .u8 0, .int .u64 0, .int .u64 0, .int .u64 0, .string ⟨#[]⟩, .string ⟨#[]⟩, .string ⟨#[]⟩]] := HS.out w5 _ _ hR1 hg
        obtain ⟨y, yz⟩ := own_cellB hO1 2 rfl 5 (u := .string ⟨#[]⟩) rfl
        have hOn := own_put hO1 2 rfl 5 (.string (str v1))
        clear hO HC HS hR1 hg hO1 c0
        go_upto_region 23 with fail
        generalize World.setCell _ _ _ = wn at hOn ⊢
        have hO : Hid (Grommet.Own w wn [boxP Z 24 #[.int .u8 0, .int .u8 0, .int .u64 0, .int .u64 0, .int .u64 0, .string ⟨#[]⟩, .string ⟨#[]⟩, .string ⟨#[]⟩], rtP w X (bs.drop a1) t1, boxP R 24 #[.int .u8 (k : Int), .int .u8 0, .int .u64 0, .int .u64 0, .int .u64 0, .string (str v1), .string ⟨#[]⟩, .string ⟨#[]⟩]]) := Lib.hid hOn
        clear hOn y yz
        obtain ⟨hRT, HS⟩ := own_rt hO.out 1 rfl
        have HC := RText_step w.heap.size X bs a1 t1 200 wn (by decide) (by decide) hRT Hle1.out
        have Hle2 : Hid ((textR bs a1 t1 200).2.1 ≤ bs.length) := Lib.hid (textR_le bs a1 t1 200 Hle1.out)
        have Hln2 : Hid ((textR bs a1 t1 200).1.length ≤ bs.length) := Lib.hid (textR_len bs a1 t1 200)
        obtain ⟨v2, hv2⟩ : ∃ v, (textR bs a1 t1 200).1 = v := ⟨_, rfl⟩
        obtain ⟨a2, ha2⟩ : ∃ v, (textR bs a1 t1 200).2.1 = v := ⟨_, rfl⟩
        obtain ⟨t2, ht2⟩ : ∃ v, (textR bs a1 t1 200).2.2 = v := ⟨_, rfl⟩
        rw [hv2, ha2, ht2] at HC
        rw [ha2] at Hle2
        rw [hv2] at Hln2
        have Hv2 := Lib.hid hv2
        have Ha2 := Lib.hid ha2
        have Ht2 := Lib.hid ht2
        replace HS := Lib.hid HS
        replace HC := Lib.hid HC
        clear hRT hv2 ha2 ht2
        go_wp2_with fail
        refine HC.out.mono ?_
        rintro e w6 ⟨rfl, hR1, hg⟩
        have hO1 : Grommet.Own w w6 [boxP Z 24 #[.int .u8 0, .int .u8 0, .int .u64 0, .int .u64 0, .int .u64 0, .string ⟨#[]⟩, .string ⟨#[]⟩, .string ⟨#[]⟩], rtP w X (bs.drop a2) t2, boxP R 24 #[.int .u8 (k : Int), .int .u8 0, .int .u64 0, .int .u64 0, .int .u64 0, .string (str v1), .string ⟨#[]⟩, .string ⟨#[]⟩]] := HS.out w6 _ _ hR1 hg
        obtain ⟨y, yz⟩ := own_cellB hO1 2 rfl 6 (u := .string ⟨#[]⟩) rfl
        have hOn := own_put hO1 2 rfl 6 (.string (str v2))
        clear hO HC HS hR1 hg hO1
        go_wp2_with fail
        have HF : Hid (FinQ bs (Rq.mk k 0 0 0 0 (str v1) (str v2) ⟨#[]⟩) a2 t2) := Lib.hid (fin_of ⟨Hk0.out, (by show 0 < 256; omega), (by show 0 < 18446744073709551616; omega), (by show 0 < 18446744073709551616; omega), (by show 0 < 18446744073709551616; omega)⟩ (fun hb => by have hE := getE_two (bs := bs) (Hk0e.out.trans Hk.out) (f := .path) (g := .to) rfl; rw [hE]; simp only [getF, get0, Hk0e.out, Ha0.out, Ht0.out, Hv1.out, Ha1.out, Ht1.out, Hv2.out, Ha2.out, Ht2.out]; refine ⟨?_, ?_, ?_⟩ <;> first | rfl | trivial))
        go_meet
        case rel => exact ⟨(Rq.mk k 0 0 0 0 (str v1) (str v2) ⟨#[]⟩), a2, t2, Lib.hid ⟨Hk0.out, (by show 0 < 256; omega), (by show 0 < 18446744073709551616; omega), (by show 0 < 18446744073709551616; omega), (by show 0 < 18446744073709551616; omega)⟩, HF, Hle2, Lib.hid hOn⟩
    · skip
      as_aux_lemma =>
        have Hk : Hid (k = 13) := Lib.hid hk
        have q1 : ((k : Int) == 1) = false := by rw [hk]; rfl
        have q2 : ((k : Int) == 2) = false := by rw [hk]; rfl
        have q3 : ((k : Int) == 3) = false := by rw [hk]; rfl
        have q4 : ((k : Int) == 4) = false := by rw [hk]; rfl
        have q5 : ((k : Int) == 5) = false := by rw [hk]; rfl
        have q6 : ((k : Int) == 6) = false := by rw [hk]; rfl
        have q10 : ((k : Int) == 10) = false := by rw [hk]; rfl
        have q12 : ((k : Int) == 12) = false := by rw [hk]; rfl
        have q13 : ((k : Int) == 13) = true := by rw [hk]; rfl
        clear hk
        have Hle0 := Hla
        obtain ⟨hRT, HS⟩ := own_rt hO.out 1 rfl
        have HC := RText_step w.heap.size X bs a0 t0 200 w4 (by decide) (by decide) hRT Hle0.out
        have Hle1 : Hid ((textR bs a0 t0 200).2.1 ≤ bs.length) := Lib.hid (textR_le bs a0 t0 200 Hle0.out)
        have Hln1 : Hid ((textR bs a0 t0 200).1.length ≤ bs.length) := Lib.hid (textR_len bs a0 t0 200)
        obtain ⟨v1, hv1⟩ : ∃ v, (textR bs a0 t0 200).1 = v := ⟨_, rfl⟩
        obtain ⟨a1, ha1⟩ : ∃ v, (textR bs a0 t0 200).2.1 = v := ⟨_, rfl⟩
        obtain ⟨t1, ht1⟩ : ∃ v, (textR bs a0 t0 200).2.2 = v := ⟨_, rfl⟩
        rw [hv1, ha1, ht1] at HC
        rw [ha1] at Hle1
        rw [hv1] at Hln1
        have Hv1 := Lib.hid hv1
        have Ha1 := Lib.hid ha1
        have Ht1 := Lib.hid ht1
        replace HS := Lib.hid HS
        replace HC := Lib.hid HC
        clear hRT hv1 ha1 ht1
        go_wp2_with fail
        refine HC.out.mono ?_
        rintro e w5 ⟨rfl, hR1, hg⟩
        have hO1 : Grommet.Own w w5 [boxP Z 24 #[.int .u8 0, .int .u8 0, .int .u64 0, .int .u64 0, .int .u64 0, .string ⟨#[]⟩, .string ⟨#[]⟩, .string ⟨#[]⟩], rtP w X (bs.drop a1) t1, boxP R 24 #[.int .u8 (k : Int), .int .u8 0, .int .u64 0, .int .u64 0, .int .u64 0, .string ⟨#[]⟩, .string ⟨#[]⟩, .string ⟨#[]⟩]] := HS.out w5 _ _ hR1 hg
        obtain ⟨y, yz⟩ := own_cellB hO1 2 rfl 5 (u := .string ⟨#[]⟩) rfl
        have hOn := own_put hO1 2 rfl 5 (.string (str v1))
        clear hO HC HS hR1 hg hO1 c0
        go_upto_region 26 with fail
        generalize World.setCell _ _ _ = wn at hOn ⊢
        have hO : Hid (Grommet.Own w wn [boxP Z 24 #[.int .u8 0, .int .u8 0, .int .u64 0, .int .u64 0, .int .u64 0, .string ⟨#[]⟩, .string ⟨#[]⟩, .string ⟨#[]⟩], rtP w X (bs.drop a1) t1, boxP R 24 #[.int .u8 (k : Int), .int .u8 0, .int .u64 0, .int .u64 0, .int .u64 0, .string (str v1), .string ⟨#[]⟩, .string ⟨#[]⟩]]) := Lib.hid hOn
        clear hOn y yz
        obtain ⟨hRT, HS⟩ := own_rt hO.out 1 rfl
        have HC := RNum_any w.heap.size X bs a1 t1 wn hRT
        have Hle2 : Hid ((numberR bs a1 t1).2.1 ≤ bs.length) := Lib.hid (numberR_le bs a1 t1 Hle1.out)
        have Hln2 : Hid ((numberR bs a1 t1).1 < 2 ^ 64) := Lib.hid (numberR_lt bs a1 t1)
        obtain ⟨v2, hv2⟩ : ∃ v, (numberR bs a1 t1).1 = v := ⟨_, rfl⟩
        obtain ⟨a2, ha2⟩ : ∃ v, (numberR bs a1 t1).2.1 = v := ⟨_, rfl⟩
        obtain ⟨t2, ht2⟩ : ∃ v, (numberR bs a1 t1).2.2 = v := ⟨_, rfl⟩
        rw [hv2, ha2, ht2] at HC
        rw [ha2] at Hle2
        rw [hv2] at Hln2
        have Hv2 := Lib.hid hv2
        have Ha2 := Lib.hid ha2
        have Ht2 := Lib.hid ht2
        replace HS := Lib.hid HS
        replace HC := Lib.hid HC
        clear hRT hv2 ha2 ht2
        go_wp2_with fail
        refine HC.out.mono ?_
        rintro e w6 ⟨rfl, hR1, hg⟩
        have hO1 : Grommet.Own w w6 [boxP Z 24 #[.int .u8 0, .int .u8 0, .int .u64 0, .int .u64 0, .int .u64 0, .string ⟨#[]⟩, .string ⟨#[]⟩, .string ⟨#[]⟩], rtP w X (bs.drop a2) t2, boxP R 24 #[.int .u8 (k : Int), .int .u8 0, .int .u64 0, .int .u64 0, .int .u64 0, .string (str v1), .string ⟨#[]⟩, .string ⟨#[]⟩]] := HS.out w6 _ _ hR1 hg
        obtain ⟨y, yz⟩ := own_cellB hO1 2 rfl 3 (u := .int .u64 0) rfl
        have hOn := own_put hO1 2 rfl 3 (.int .u64 (v2 : Int))
        clear hO HC HS hR1 hg hO1
        go_wp2_with fail
        have HF : Hid (FinQ bs (Rq.mk k 0 0 v2 0 (str v1) ⟨#[]⟩ ⟨#[]⟩) a2 t2) := Lib.hid (fin_of ⟨Hk0.out, (by show 0 < 256; omega), (by show 0 < 18446744073709551616; omega), (by have := Hln2.out; show v2 < 18446744073709551616; omega), (by show 0 < 18446744073709551616; omega)⟩ (fun hb => by have hE := getE_two (bs := bs) (Hk0e.out.trans Hk.out) (f := .path) (g := .at) rfl; rw [hE]; simp only [getF, get0, Hk0e.out, Ha0.out, Ht0.out, Hv1.out, Ha1.out, Ht1.out, Hv2.out, Ha2.out, Ht2.out]; refine ⟨?_, ?_, ?_⟩ <;> first | rfl | trivial))
        go_meet
        case rel => exact ⟨(Rq.mk k 0 0 v2 0 (str v1) ⟨#[]⟩ ⟨#[]⟩), a2, t2, Lib.hid ⟨Hk0.out, (by show 0 < 256; omega), (by show 0 < 18446744073709551616; omega), (by have := Hln2.out; show v2 < 18446744073709551616; omega), (by show 0 < 18446744073709551616; omega)⟩, HF, Hle2, Lib.hid hOn⟩
    · skip
      as_aux_lemma =>
        have Hk : Hid (¬ (1 ≤ k ∧ k ≤ 13)) := Lib.hid hk
        have q1 : ((k : Int) == 1) = false := by rw [beq_eq_false_iff_ne]; omega
        have q2 : ((k : Int) == 2) = false := by rw [beq_eq_false_iff_ne]; omega
        have q3 : ((k : Int) == 3) = false := by rw [beq_eq_false_iff_ne]; omega
        have q4 : ((k : Int) == 4) = false := by rw [beq_eq_false_iff_ne]; omega
        have q5 : ((k : Int) == 5) = false := by rw [beq_eq_false_iff_ne]; omega
        have q6 : ((k : Int) == 6) = false := by rw [beq_eq_false_iff_ne]; omega
        have q10 : ((k : Int) == 10) = false := by rw [beq_eq_false_iff_ne]; omega
        have q12 : ((k : Int) == 12) = false := by rw [beq_eq_false_iff_ne]; omega
        have q13 : ((k : Int) == 13) = false := by rw [beq_eq_false_iff_ne]; omega
        clear hk
        have Hle0 := Hla
        obtain ⟨hRT, HS⟩ := own_rt hO.out 1 rfl
        have HC := RText_step w.heap.size X bs a0 t0 200 w4 (by decide) (by decide) hRT Hle0.out
        have Hle1 : Hid ((textR bs a0 t0 200).2.1 ≤ bs.length) := Lib.hid (textR_le bs a0 t0 200 Hle0.out)
        have Hln1 : Hid ((textR bs a0 t0 200).1.length ≤ bs.length) := Lib.hid (textR_len bs a0 t0 200)
        obtain ⟨v1, hv1⟩ : ∃ v, (textR bs a0 t0 200).1 = v := ⟨_, rfl⟩
        obtain ⟨a1, ha1⟩ : ∃ v, (textR bs a0 t0 200).2.1 = v := ⟨_, rfl⟩
        obtain ⟨t1, ht1⟩ : ∃ v, (textR bs a0 t0 200).2.2 = v := ⟨_, rfl⟩
        rw [hv1, ha1, ht1] at HC
        rw [ha1] at Hle1
        rw [hv1] at Hln1
        have Hv1 := Lib.hid hv1
        have Ha1 := Lib.hid ha1
        have Ht1 := Lib.hid ht1
        replace HS := Lib.hid HS
        replace HC := Lib.hid HC
        clear hRT hv1 ha1 ht1
        go_wp2_with fail
        refine HC.out.mono ?_
        rintro e w5 ⟨rfl, hR1, hg⟩
        have hO1 : Grommet.Own w w5 [boxP Z 24 #[.int .u8 0, .int .u8 0, .int .u64 0, .int .u64 0, .int .u64 0, .string ⟨#[]⟩, .string ⟨#[]⟩, .string ⟨#[]⟩], rtP w X (bs.drop a1) t1, boxP R 24 #[.int .u8 (k : Int), .int .u8 0, .int .u64 0, .int .u64 0, .int .u64 0, .string ⟨#[]⟩, .string ⟨#[]⟩, .string ⟨#[]⟩]] := HS.out w5 _ _ hR1 hg
        obtain ⟨y, yz⟩ := own_cellB hO1 2 rfl 5 (u := .string ⟨#[]⟩) rfl
        have hOn := own_put hO1 2 rfl 5 (.string (str v1))
        clear hO HC HS hR1 hg hO1 c0
        go_wp2_with fail
        have HF : Hid (FinQ bs (Rq.mk k 0 0 0 0 (str v1) ⟨#[]⟩ ⟨#[]⟩) a1 t1) := Lib.hid (fin_of ⟨Hk0.out, (by show 0 < 256; omega), (by show 0 < 18446744073709551616; omega), (by show 0 < 18446744073709551616; omega), (by show 0 < 18446744073709551616; omega)⟩ (fun hb => absurd (by have := get_kind hb; rw [Hk0e.out] at this; exact this) Hk.out))
        go_meet
        case rel => exact ⟨(Rq.mk k 0 0 0 0 (str v1) ⟨#[]⟩ ⟨#[]⟩), a1, t1, Lib.hid ⟨Hk0.out, (by show 0 < 256; omega), (by show 0 < 18446744073709551616; omega), (by show 0 < 18446744073709551616; omega), (by show 0 < 18446744073709551616; omega)⟩, HF, Hle1, Lib.hid hOn⟩
  case rest =>
    obtain ⟨x, a, t, Hx, HF, Hle, hO⟩ := hcut
    clear c0 Hla Ha0 Ht0 Hk0e Hk0
    have HM := Lib.hid (fun wx => RMay_any x Hx.out wx)
    unfold Rq.cs at HM hO
    obtain ⟨m, hm⟩ : ∃ m, mayQ x = m := ⟨_, rfl⟩
    rw [hm] at HM
    have HMq := Lib.hid hm
    clear hm
    obtain ⟨hRT, _⟩ := own_rt hO.out 1 rfl
    obtain ⟨ad, len, cap, hT⟩ := hRT
    obtain ⟨ct0, ct1, _, _⟩ := hT.facts
    have hlen : (bs.drop a).length = len := hT.len_
    rw [List.length_drop] at hlen
    clear hT
    have c0 := (own_cellB hO.out 2 rfl 0 (u := .int .u8 (x.k : Int)) rfl).1
    have c1 := (own_cellB hO.out 2 rfl 1 (u := .int .u8 (x.fl : Int)) rfl).1
    have c2 := (own_cellB hO.out 2 rfl 2 (u := .int .u64 (x.fd : Int)) rfl).1
    have c3 := (own_cellB hO.out 2 rfl 3 (u := .int .u64 (x.at_ : Int)) rfl).1
    have c4 := (own_cellB hO.out 2 rfl 4 (u := .int .u64 (x.sz : Int)) rfl).1
    have c5 := (own_cellB hO.out 2 rfl 5 (u := .string x.p) rfl).1
    have c6 := (own_cellB hO.out 2 rfl 6 (u := .string x.t) rfl).1
    have c7 := (own_cellB hO.out 2 rfl 7 (u := .string x.d) rfl).1
    have hraw : Hid (At wc ad0 (bs.map bv)) := Lib.hid (Hat.out.grown hO.out.grown (fun _ _ _ => by simp))
    cases t with
    | true =>
      have HN := Lib.hid (HF.out.no (.inl rfl))
      clear hlen
      go_upto_region 27 with fail
      refine wp_region_held_drew (S := fun wx => World.grownBy wc wx none) (by kernel_rfl) (grown_drew (World.grownBy.refl _ none)) (fun hS => ?_)
      generalize World.drew _ = wD at hS ⊢
      refine wpAnyH_take (i := 0) (oi := { dst := some 74, op := Op.move (Operand.tmp 4), type := 55, pos := "ref.go:106", after := #[], guard := none }) (v := ?vqa12r27o0n1) rfl (by kernel_rfl) (by kernel_rfl) (by kernel_rfl) (fun _ _ _ h => h) (Or.inl ⟨by rfl, ?hqa12r27o0n1⟩) hS ?_
      case hqa12r27o0n1 => (intro wx hx; skip; go_simp; (try with_reducible rfl))
      try simp only [Act.put, List.setIfInBounds_toArray, List.set_cons_zero, List.set_cons_succ]
      refine wpAnyH_take (i := 1) (oi := { dst := some 75, op := Op.nilCheck (Operand.tmp 74), type := 0, pos := "ref.go:106", after := #[{ on := 0, ground := Ground.data }], guard := none }) (v := ?vqa12r27o1n2) rfl (by kernel_rfl) (by kernel_rfl) (by kernel_rfl) (fun _ _ _ h => h) (Or.inl ⟨by rfl, ?hqa12r27o1n2⟩) hS ?_
      case hqa12r27o1n2 => (intro wx hx; skip; go_simp; (try with_reducible rfl))
      try simp only [Act.put, List.setIfInBounds_toArray, List.set_cons_zero, List.set_cons_succ]
      refine wpAnyH_take (i := 2) (oi := { dst := some 76, op := Op.fieldAddr 57 (Operand.tmp 75) 1, type := 0, pos := "ref.go:106", after := #[{ on := 1, ground := Ground.data }], guard := none }) (v := ?vqa12r27o2n3) rfl (by kernel_rfl) (by kernel_rfl) (by kernel_rfl) (fun _ _ _ h => h) (Or.inl ⟨by rfl, ?hqa12r27o2n3⟩) hS ?_
      case hqa12r27o2n3 => (intro wx hx; skip; go_simp; (try with_reducible rfl))
      try simp only [Act.put, List.setIfInBounds_toArray, List.set_cons_zero, List.set_cons_succ]
      refine wpAnyH_take (i := 3) (oi := { dst := some 77, op := Op.load 4 (Operand.tmp 76), type := 4, pos := "ref.go:106", after := #[{ on := 2, ground := Ground.data }], guard := none }) (v := ?vqa12r27o3n4) rfl (by kernel_rfl) (by kernel_rfl) (by kernel_rfl) (fun _ _ _ h => h) (Or.inl ⟨by rfl, ?hqa12r27o3n4⟩) hS ?_
      case hqa12r27o3n4 => (intro wx hx; have yt0 := hx.cell ct0 (by simp); have yt1 := hx.cell ct1 (by simp); have y0 := hx.cell c0 (by simp); have y1 := hx.cell c1 (by simp); have y2 := hx.cell c2 (by simp); have y3 := hx.cell c3 (by simp); have y4 := hx.cell c4 (by simp); have y5 := hx.cell c5 (by simp); have y6 := hx.cell c6 (by simp); have y7 := hx.cell c7 (by simp); have hcv1 := conv_at (P := Try.prog) (w := wx) 25 9 5 Try.underlying25 Try.underlying5 Try.underlying9 (hraw.out.grown hx (fun _ _ _ => by simp)) Hl.out (fun e => (Hnil.out e).1) (cap := cap0); go_simp; (try with_reducible rfl))
      try simp only [Act.put, List.setIfInBounds_toArray, List.set_cons_zero, List.set_cons_succ]
      refine wpAnyH_take (i := 4) (oi := { dst := some 78, op := Op.move (Operand.tmp 77), type := 4, pos := "ref.go:106", after := #[{ on := 3, ground := Ground.data }], guard := none }) (v := ?vqa12r27o4n5) rfl (by kernel_rfl) (by kernel_rfl) (by kernel_rfl) (fun _ _ _ h => h) (Or.inl ⟨by rfl, ?hqa12r27o4n5⟩) hS ?_
      case hqa12r27o4n5 => (intro wx hx; skip; go_simp; (try with_reducible rfl))
      try simp only [Act.put, List.setIfInBounds_toArray, List.set_cons_zero, List.set_cons_succ]
      refine wpAnyH_take (i := 5) (oi := { dst := some 79, op := Op.move (Operand.tmp 4), type := 55, pos := "ref.go:106", after := #[{ on := 4, ground := Ground.guard }], guard := some (4, false) }) (v := undef) rfl (by kernel_rfl) (by kernel_rfl) (by kernel_rfl) (fun _ _ _ h => h) (Or.inr ⟨by rfl, rfl⟩) hS ?_
      try simp only [Act.put, List.setIfInBounds_toArray, List.set_cons_zero, List.set_cons_succ]
      refine wpAnyH_take (i := 6) (oi := { dst := some 80, op := Op.nilCheck (Operand.tmp 79), type := 0, pos := "ref.go:106", after := #[{ on := 5, ground := Ground.data }, { on := 4, ground := Ground.guard }], guard := some (4, false) }) (v := undef) rfl (by kernel_rfl) (by kernel_rfl) (by kernel_rfl) (fun _ _ _ h => h) (Or.inr ⟨by rfl, rfl⟩) hS ?_
      try simp only [Act.put, List.setIfInBounds_toArray, List.set_cons_zero, List.set_cons_succ]
      refine wpAnyH_take (i := 7) (oi := { dst := some 81, op := Op.fieldAddr 57 (Operand.tmp 80) 0, type := 0, pos := "ref.go:106", after := #[{ on := 6, ground := Ground.data }, { on := 4, ground := Ground.guard }], guard := some (4, false) }) (v := undef) rfl (by kernel_rfl) (by kernel_rfl) (by kernel_rfl) (fun _ _ _ h => h) (Or.inr ⟨by rfl, rfl⟩) hS ?_
      try simp only [Act.put, List.setIfInBounds_toArray, List.set_cons_zero, List.set_cons_succ]
      refine wpAnyH_take (i := 8) (oi := { dst := some 82, op := Op.load 25 (Operand.tmp 81), type := 25, pos := "ref.go:106", after := #[{ on := 7, ground := Ground.data }, { on := 4, ground := Ground.guard }], guard := some (4, false) }) (v := undef) rfl (by kernel_rfl) (by kernel_rfl) (by kernel_rfl) (fun _ _ _ h => h) (Or.inr ⟨by rfl, rfl⟩) hS ?_
      try simp only [Act.put, List.setIfInBounds_toArray, List.set_cons_zero, List.set_cons_succ]
      refine wpAnyH_take (i := 9) (oi := { dst := some 83, op := Op.call { callee := Callee.builtin Builtin.len, args := #[Operand.tmp 82], argTypes := #[25] }, type := 3, pos := "ref.go:106", after := #[{ on := 8, ground := Ground.data }, { on := 4, ground := Ground.guard }], guard := some (4, false) }) (v := undef) rfl (by kernel_rfl) (by kernel_rfl) (by kernel_rfl) (fun _ _ _ h => h) (Or.inr ⟨by rfl, rfl⟩) hS ?_
      try simp only [Act.put, List.setIfInBounds_toArray, List.set_cons_zero, List.set_cons_succ]
      refine wpAnyH_take (i := 10) (oi := { dst := some 84, op := Op.binOp BinOp.gtr 3 (Operand.tmp 83) (Operand.const (Value.int IntKind.i64 0)) 3, type := 4, pos := "ref.go:106", after := #[{ on := 9, ground := Ground.data }, { on := 4, ground := Ground.guard }], guard := some (4, false) }) (v := undef) rfl (by kernel_rfl) (by kernel_rfl) (by kernel_rfl) (fun _ _ _ h => h) (Or.inr ⟨by rfl, rfl⟩) hS ?_
      try simp only [Act.put, List.setIfInBounds_toArray, List.set_cons_zero, List.set_cons_succ]
      refine wpAnyH_take (i := 11) (oi := { dst := some 85, op := Op.pick (Operand.tmp 78) (Operand.const (Value.bool true)) (Operand.tmp 84), type := 4, pos := "ref.go:106", after := #[{ on := 4, ground := Ground.data }, { on := 10, ground := Ground.data }], guard := none }) (v := ?vqa12r27o11n12) rfl (by kernel_rfl) (by kernel_rfl) (by kernel_rfl) (fun _ _ _ h => h) (Or.inl ⟨by rfl, ?hqa12r27o11n12⟩) hS ?_
      case hqa12r27o11n12 => (intro wx hx; skip; go_simp; (try with_reducible rfl))
      try simp only [Act.put, List.setIfInBounds_toArray, List.set_cons_zero, List.set_cons_succ]
      refine wpAnyH_take (i := 12) (oi := { dst := some 86, op := Op.move (Operand.tmp 85), type := 4, pos := "ref.go:106", after := #[{ on := 11, ground := Ground.data }, { on := 4, ground := Ground.chain }], guard := none }) (v := ?vqa12r27o12n13) rfl (by kernel_rfl) (by kernel_rfl) (by kernel_rfl) (fun _ _ _ h => h) (Or.inl ⟨by rfl, ?hqa12r27o12n13⟩) hS ?_
      case hqa12r27o12n13 => (intro wx hx; skip; go_simp; (try with_reducible rfl))
      try simp only [Act.put, List.setIfInBounds_toArray, List.set_cons_zero, List.set_cons_succ]
      refine wpAnyH_take (i := 13) (oi := { dst := some 87, op := Op.load 24 (Operand.tmp 5), type := 24, pos := "ref.go:106", after := #[{ on := 12, ground := Ground.guard }], guard := some (12, false) }) (v := undef) rfl (by kernel_rfl) (by kernel_rfl) (by kernel_rfl) (fun _ _ _ h => h) (Or.inr ⟨by rfl, rfl⟩) hS ?_
      try simp only [Act.put, List.setIfInBounds_toArray, List.set_cons_zero, List.set_cons_succ]
      refine wpAnyH_take (i := 14) (oi := { dst := some 88, op := Op.call { callee := Callee.value (Operand.func 14), args := #[Operand.tmp 87], argTypes := #[24] }, type := 4, pos := "ref.go:106", after := #[{ on := 13, ground := Ground.data }, { on := 12, ground := Ground.chain }, { on := 12, ground := Ground.guard }], guard := some (12, false) }) (v := undef) rfl (by kernel_rfl) (by kernel_rfl) (by kernel_rfl) (fun _ _ _ h => h) (Or.inr ⟨by rfl, rfl⟩) hS ?_
      try simp only [Act.put, List.setIfInBounds_toArray, List.set_cons_zero, List.set_cons_succ]
      refine wpAnyH_take (i := 15) (oi := { dst := some 89, op := Op.unOp UnOp.not 4 (Operand.tmp 88), type := 4, pos := "ref.go:106", after := #[{ on := 14, ground := Ground.data }, { on := 12, ground := Ground.guard }], guard := some (12, false) }) (v := undef) rfl (by kernel_rfl) (by kernel_rfl) (by kernel_rfl) (fun _ _ _ h => h) (Or.inr ⟨by rfl, rfl⟩) hS ?_
      try simp only [Act.put, List.setIfInBounds_toArray, List.set_cons_zero, List.set_cons_succ]
      refine wpAnyH_take (i := 16) (oi := { dst := some 90, op := Op.pick (Operand.tmp 86) (Operand.const (Value.bool true)) (Operand.tmp 89), type := 4, pos := "ref.go:106", after := #[{ on := 12, ground := Ground.data }, { on := 15, ground := Ground.data }], guard := none }) (v := ?vqa12r27o16n17) rfl (by kernel_rfl) (by kernel_rfl) (by kernel_rfl) (fun _ _ _ h => h) (Or.inl ⟨by rfl, ?hqa12r27o16n17⟩) hS ?_
      case hqa12r27o16n17 => (intro wx hx; skip; go_simp; (try with_reducible rfl))
      try simp only [Act.put, List.setIfInBounds_toArray, List.set_cons_zero, List.set_cons_succ]
      refine wpAnyH_take (i := 17) (oi := { dst := some 91, op := Op.move (Operand.tmp 90), type := 4, pos := "ref.go:106", after := #[{ on := 16, ground := Ground.data }, { on := 14, ground := Ground.chain }], guard := none }) (v := ?vqa12r27o17n18) rfl (by kernel_rfl) (by kernel_rfl) (by kernel_rfl) (fun _ _ _ h => h) (Or.inl ⟨by rfl, ?hqa12r27o17n18⟩) hS ?_
      case hqa12r27o17n18 => (intro wx hx; skip; go_simp; (try with_reducible rfl))
      try simp only [Act.put, List.setIfInBounds_toArray, List.set_cons_zero, List.set_cons_succ]
      refine wpAnyH_take (i := 18) (oi := { dst := some 92, op := Op.load 24 (Operand.tmp 5), type := 24, pos := "ref.go:106", after := #[{ on := 17, ground := Ground.guard }], guard := some (17, false) }) (v := undef) rfl (by kernel_rfl) (by kernel_rfl) (by kernel_rfl) (fun _ _ _ h => h) (Or.inr ⟨by rfl, rfl⟩) hS ?_
      try simp only [Act.put, List.setIfInBounds_toArray, List.set_cons_zero, List.set_cons_succ]
      refine wpAnyH_take (i := 19) (oi := { dst := some 93, op := Op.call { callee := Callee.value (Operand.func 16), args := #[Operand.tmp 92], argTypes := #[24] }, type := 25, pos := "ref.go:106", after := #[{ on := 18, ground := Ground.data }, { on := 17, ground := Ground.chain }, { on := 17, ground := Ground.guard }], guard := some (17, false) }) (v := undef) rfl (by kernel_rfl) (by kernel_rfl) (by kernel_rfl) (fun _ _ _ h => h) (Or.inr ⟨by rfl, rfl⟩) hS ?_
      try simp only [Act.put, List.setIfInBounds_toArray, List.set_cons_zero, List.set_cons_succ]
      refine wpAnyH_take (i := 20) (oi := { dst := some 94, op := Op.convert 25 9 (Operand.tmp 93), type := 9, pos := "ref.go:106", after := #[{ on := 19, ground := Ground.data }, { on := 17, ground := Ground.guard }], guard := some (17, false) }) (v := undef) rfl (by kernel_rfl) (by kernel_rfl) (by kernel_rfl) (fun _ _ _ h => h) (Or.inr ⟨by rfl, rfl⟩) hS ?_
      try simp only [Act.put, List.setIfInBounds_toArray, List.set_cons_zero, List.set_cons_succ]
      refine wpAnyH_take (i := 21) (oi := { dst := some 95, op := Op.move (Operand.tmp 0), type := 25, pos := "ref.go:106", after := #[{ on := 17, ground := Ground.guard }], guard := some (17, false) }) (v := undef) rfl (by kernel_rfl) (by kernel_rfl) (by kernel_rfl) (fun _ _ _ h => h) (Or.inr ⟨by rfl, rfl⟩) hS ?_
      try simp only [Act.put, List.setIfInBounds_toArray, List.set_cons_zero, List.set_cons_succ]
      refine wpAnyH_take (i := 22) (oi := { dst := some 96, op := Op.convert 25 9 (Operand.tmp 95), type := 9, pos := "ref.go:106", after := #[{ on := 21, ground := Ground.data }, { on := 17, ground := Ground.guard }], guard := some (17, false) }) (v := undef) rfl (by kernel_rfl) (by kernel_rfl) (by kernel_rfl) (fun _ _ _ h => h) (Or.inr ⟨by rfl, rfl⟩) hS ?_
      try simp only [Act.put, List.setIfInBounds_toArray, List.set_cons_zero, List.set_cons_succ]
      refine wpAnyH_take (i := 23) (oi := { dst := some 97, op := Op.binOp BinOp.neq 9 (Operand.tmp 94) (Operand.tmp 96) 9, type := 4, pos := "ref.go:106", after := #[{ on := 20, ground := Ground.data }, { on := 22, ground := Ground.data }, { on := 17, ground := Ground.guard }], guard := some (17, false) }) (v := undef) rfl (by kernel_rfl) (by kernel_rfl) (by kernel_rfl) (fun _ _ _ h => h) (Or.inr ⟨by rfl, rfl⟩) hS ?_
      try simp only [Act.put, List.setIfInBounds_toArray, List.set_cons_zero, List.set_cons_succ]
      refine wpAnyH_take (i := 24) (oi := { dst := some 98, op := Op.pick (Operand.tmp 91) (Operand.const (Value.bool true)) (Operand.tmp 97), type := 4, pos := "ref.go:106", after := #[{ on := 17, ground := Ground.data }, { on := 23, ground := Ground.data }], guard := none }) (v := ?vqa12r27o24n25) rfl (by kernel_rfl) (by kernel_rfl) (by kernel_rfl) (fun _ _ _ h => h) (Or.inl ⟨by rfl, ?hqa12r27o24n25⟩) hS ?_
      case hqa12r27o24n25 => (intro wx hx; skip; go_simp; (try with_reducible rfl))
      try simp only [Act.put, List.setIfInBounds_toArray, List.set_cons_zero, List.set_cons_succ]
      refine wpAnyH_done (by kernel_rfl) ?_ _
      replace hO := Lib.hid (hO.out.quiet hS)
      clear ct0 ct1 c0 c1 c2 c3 c4 c5 c6 c7 hraw hS
      go_upto_region 28 with fail
      obtain ⟨z0, z0z⟩ := own_cellB hO.out 0 rfl 0 (u := .int .u8 0) rfl
      obtain ⟨z1, z1z⟩ := own_cellB hO.out 0 rfl 1 (u := .int .u8 0) rfl
      obtain ⟨z2, z2z⟩ := own_cellB hO.out 0 rfl 2 (u := .int .u64 0) rfl
      obtain ⟨z3, z3z⟩ := own_cellB hO.out 0 rfl 3 (u := .int .u64 0) rfl
      obtain ⟨z4, z4z⟩ := own_cellB hO.out 0 rfl 4 (u := .int .u64 0) rfl
      obtain ⟨z5, z5z⟩ := own_cellB hO.out 0 rfl 5 (u := .string ⟨#[]⟩) rfl
      obtain ⟨z6, z6z⟩ := own_cellB hO.out 0 rfl 6 (u := .string ⟨#[]⟩) rfl
      obtain ⟨z7, z7z⟩ := own_cellB hO.out 0 rfl 7 (u := .string ⟨#[]⟩) rfl
      have hF : Hid (Grommet.Own w ((((((((wD.setCell ⟨Z, 0, none⟩ (.int .u8 0)).setCell ⟨Z, 1, none⟩ (.int .u8 0)).setCell ⟨Z, 2, none⟩ (.int .u64 0)).setCell ⟨Z, 3, none⟩ (.int .u64 0)).setCell ⟨Z, 4, none⟩ (.int .u64 0)).setCell ⟨Z, 5, none⟩ (.string ⟨#[]⟩)).setCell ⟨Z, 6, none⟩ (.string ⟨#[]⟩)).setCell ⟨Z, 7, none⟩ (.string ⟨#[]⟩)) [boxP Z 24 zeroRq.cs, rtP w X (bs.drop a) true, boxP R 24 x.cs]) := Lib.hid (own_fill hO.out 0 rfl (cs := #[.int .u8 0, .int .u8 0, .int .u64 0, .int .u64 0, .int .u64 0, .string ⟨#[]⟩, .string ⟨#[]⟩, .string ⟨#[]⟩]) rfl zeroRq)
      obtain ⟨W3, hW3⟩ : ∃ W3, ((((((((wD.setCell ⟨Z, 0, none⟩ (.int .u8 0)).setCell ⟨Z, 1, none⟩ (.int .u8 0)).setCell ⟨Z, 2, none⟩ (.int .u64 0)).setCell ⟨Z, 3, none⟩ (.int .u64 0)).setCell ⟨Z, 4, none⟩ (.int .u64 0)).setCell ⟨Z, 5, none⟩ (.string ⟨#[]⟩)).setCell ⟨Z, 6, none⟩ (.string ⟨#[]⟩)).setCell ⟨Z, 7, none⟩ (.string ⟨#[]⟩)) = W3 := ⟨_, rfl⟩
      rw [hW3] at hF
      clear hO
      go_wp2
      try rw [hW3]
      clear hW3 z0 z0z z1 z1z z2 z2z z3 z3z z4 z4z z5 z5z z6 z6z z7 z7z
      have x0 := (own_cellB hF.out 0 rfl 0 (u := .int .u8 0) rfl).1
      have x1 := (own_cellB hF.out 0 rfl 1 (u := .int .u8 0) rfl).1
      have x2 := (own_cellB hF.out 0 rfl 2 (u := .int .u64 0) rfl).1
      have x3 := (own_cellB hF.out 0 rfl 3 (u := .int .u64 0) rfl).1
      have x4 := (own_cellB hF.out 0 rfl 4 (u := .int .u64 0) rfl).1
      have x5 := (own_cellB hF.out 0 rfl 5 (u := .string ⟨#[]⟩) rfl).1
      have x6 := (own_cellB hF.out 0 rfl 6 (u := .string ⟨#[]⟩) rfl).1
      have x7 := (own_cellB hF.out 0 rfl 7 (u := .string ⟨#[]⟩) rfl).1
      exact bodyPost_ret (v := .tuple #[.agg #[.int .u8 0, .int .u8 0, .int .u64 0, .int .u64 0, .int .u64 0, .string ⟨#[]⟩, .string ⟨#[]⟩, .string ⟨#[]⟩], .int .i64 4]) (by simp [results, Try.results12, go_sem, x0, x1, x2, x3, x4, x5, x6, x7]) rfl ⟨by rw [HN.out.1, HN.out.2]; rfl, hF.out.grown⟩
    | false =>
      by_cases ha : a < bs.length
      · have HN := Lib.hid (HF.out.no (.inr (.inl ha)))
        have hl0 : (0 : Int) < (len : Int) := by omega
        have d0 : decide ((0 : Int) < (len : Int)) = true := by simp; omega
        have d1 : decide (0 < len) = true := by simp; omega
        have d2 : 0 < len := by omega
        clear hlen ha
        go_upto_region 27 with fail
        refine wp_region_held_drew (S := fun wx => World.grownBy wc wx none) (by kernel_rfl) (grown_drew (World.grownBy.refl _ none)) (fun hS => ?_)
        generalize World.drew _ = wD at hS ⊢
        refine wpAnyH_take (i := 0) (oi := { dst := some 74, op := Op.move (Operand.tmp 4), type := 55, pos := "ref.go:106", after := #[], guard := none }) (v := ?vqb12r27o0n1) rfl (by kernel_rfl) (by kernel_rfl) (by kernel_rfl) (fun _ _ _ h => h) (Or.inl ⟨by rfl, ?hqb12r27o0n1⟩) hS ?_
        case hqb12r27o0n1 => (intro wx hx; skip; go_simp; (try with_reducible rfl))
        try simp only [Act.put, List.setIfInBounds_toArray, List.set_cons_zero, List.set_cons_succ]
        refine wpAnyH_take (i := 1) (oi := { dst := some 75, op := Op.nilCheck (Operand.tmp 74), type := 0, pos := "ref.go:106", after := #[{ on := 0, ground := Ground.data }], guard := none }) (v := ?vqb12r27o1n2) rfl (by kernel_rfl) (by kernel_rfl) (by kernel_rfl) (fun _ _ _ h => h) (Or.inl ⟨by rfl, ?hqb12r27o1n2⟩) hS ?_
        case hqb12r27o1n2 => (intro wx hx; skip; go_simp; (try with_reducible rfl))
        try simp only [Act.put, List.setIfInBounds_toArray, List.set_cons_zero, List.set_cons_succ]
        refine wpAnyH_take (i := 2) (oi := { dst := some 76, op := Op.fieldAddr 57 (Operand.tmp 75) 1, type := 0, pos := "ref.go:106", after := #[{ on := 1, ground := Ground.data }], guard := none }) (v := ?vqb12r27o2n3) rfl (by kernel_rfl) (by kernel_rfl) (by kernel_rfl) (fun _ _ _ h => h) (Or.inl ⟨by rfl, ?hqb12r27o2n3⟩) hS ?_
        case hqb12r27o2n3 => (intro wx hx; skip; go_simp; (try with_reducible rfl))
        try simp only [Act.put, List.setIfInBounds_toArray, List.set_cons_zero, List.set_cons_succ]
        refine wpAnyH_take (i := 3) (oi := { dst := some 77, op := Op.load 4 (Operand.tmp 76), type := 4, pos := "ref.go:106", after := #[{ on := 2, ground := Ground.data }], guard := none }) (v := ?vqb12r27o3n4) rfl (by kernel_rfl) (by kernel_rfl) (by kernel_rfl) (fun _ _ _ h => h) (Or.inl ⟨by rfl, ?hqb12r27o3n4⟩) hS ?_
        case hqb12r27o3n4 => (intro wx hx; have yt0 := hx.cell ct0 (by simp); have yt1 := hx.cell ct1 (by simp); have y0 := hx.cell c0 (by simp); have y1 := hx.cell c1 (by simp); have y2 := hx.cell c2 (by simp); have y3 := hx.cell c3 (by simp); have y4 := hx.cell c4 (by simp); have y5 := hx.cell c5 (by simp); have y6 := hx.cell c6 (by simp); have y7 := hx.cell c7 (by simp); have hcv1 := conv_at (P := Try.prog) (w := wx) 25 9 5 Try.underlying25 Try.underlying5 Try.underlying9 (hraw.out.grown hx (fun _ _ _ => by simp)) Hl.out (fun e => (Hnil.out e).1) (cap := cap0); go_simp; (try with_reducible rfl))
        try simp only [Act.put, List.setIfInBounds_toArray, List.set_cons_zero, List.set_cons_succ]
        refine wpAnyH_take (i := 4) (oi := { dst := some 78, op := Op.move (Operand.tmp 77), type := 4, pos := "ref.go:106", after := #[{ on := 3, ground := Ground.data }], guard := none }) (v := ?vqb12r27o4n5) rfl (by kernel_rfl) (by kernel_rfl) (by kernel_rfl) (fun _ _ _ h => h) (Or.inl ⟨by rfl, ?hqb12r27o4n5⟩) hS ?_
        case hqb12r27o4n5 => (intro wx hx; skip; go_simp; (try with_reducible rfl))
        try simp only [Act.put, List.setIfInBounds_toArray, List.set_cons_zero, List.set_cons_succ]
        refine wpAnyH_take (i := 5) (oi := { dst := some 79, op := Op.move (Operand.tmp 4), type := 55, pos := "ref.go:106", after := #[{ on := 4, ground := Ground.guard }], guard := some (4, false) }) (v := ?vqb12r27o5n6) rfl (by kernel_rfl) (by kernel_rfl) (by kernel_rfl) (fun _ _ _ h => h) (Or.inl ⟨by rfl, ?hqb12r27o5n6⟩) hS ?_
        case hqb12r27o5n6 => (intro wx hx; skip; go_simp; (try with_reducible rfl))
        try simp only [Act.put, List.setIfInBounds_toArray, List.set_cons_zero, List.set_cons_succ]
        refine wpAnyH_take (i := 6) (oi := { dst := some 80, op := Op.nilCheck (Operand.tmp 79), type := 0, pos := "ref.go:106", after := #[{ on := 5, ground := Ground.data }, { on := 4, ground := Ground.guard }], guard := some (4, false) }) (v := ?vqb12r27o6n7) rfl (by kernel_rfl) (by kernel_rfl) (by kernel_rfl) (fun _ _ _ h => h) (Or.inl ⟨by rfl, ?hqb12r27o6n7⟩) hS ?_
        case hqb12r27o6n7 => (intro wx hx; skip; go_simp; (try with_reducible rfl))
        try simp only [Act.put, List.setIfInBounds_toArray, List.set_cons_zero, List.set_cons_succ]
        refine wpAnyH_take (i := 7) (oi := { dst := some 81, op := Op.fieldAddr 57 (Operand.tmp 80) 0, type := 0, pos := "ref.go:106", after := #[{ on := 6, ground := Ground.data }, { on := 4, ground := Ground.guard }], guard := some (4, false) }) (v := ?vqb12r27o7n8) rfl (by kernel_rfl) (by kernel_rfl) (by kernel_rfl) (fun _ _ _ h => h) (Or.inl ⟨by rfl, ?hqb12r27o7n8⟩) hS ?_
        case hqb12r27o7n8 => (intro wx hx; skip; go_simp; (try with_reducible rfl))
        try simp only [Act.put, List.setIfInBounds_toArray, List.set_cons_zero, List.set_cons_succ]
        refine wpAnyH_take (i := 8) (oi := { dst := some 82, op := Op.load 25 (Operand.tmp 81), type := 25, pos := "ref.go:106", after := #[{ on := 7, ground := Ground.data }, { on := 4, ground := Ground.guard }], guard := some (4, false) }) (v := ?vqb12r27o8n9) rfl (by kernel_rfl) (by kernel_rfl) (by kernel_rfl) (fun _ _ _ h => h) (Or.inl ⟨by rfl, ?hqb12r27o8n9⟩) hS ?_
        case hqb12r27o8n9 => (intro wx hx; have yt0 := hx.cell ct0 (by simp); have yt1 := hx.cell ct1 (by simp); have y0 := hx.cell c0 (by simp); have y1 := hx.cell c1 (by simp); have y2 := hx.cell c2 (by simp); have y3 := hx.cell c3 (by simp); have y4 := hx.cell c4 (by simp); have y5 := hx.cell c5 (by simp); have y6 := hx.cell c6 (by simp); have y7 := hx.cell c7 (by simp); have hcv1 := conv_at (P := Try.prog) (w := wx) 25 9 5 Try.underlying25 Try.underlying5 Try.underlying9 (hraw.out.grown hx (fun _ _ _ => by simp)) Hl.out (fun e => (Hnil.out e).1) (cap := cap0); go_simp; (try with_reducible rfl))
        try simp only [Act.put, List.setIfInBounds_toArray, List.set_cons_zero, List.set_cons_succ]
        refine wpAnyH_take (i := 9) (oi := { dst := some 83, op := Op.call { callee := Callee.builtin Builtin.len, args := #[Operand.tmp 82], argTypes := #[25] }, type := 3, pos := "ref.go:106", after := #[{ on := 8, ground := Ground.data }, { on := 4, ground := Ground.guard }], guard := some (4, false) }) (v := ?vqb12r27o9n10) rfl (by kernel_rfl) (by kernel_rfl) (by kernel_rfl) (fun _ _ _ h => h) (Or.inl ⟨by rfl, ?hqb12r27o9n10⟩) hS ?_
        case hqb12r27o9n10 => (intro wx hx; skip; go_simp; (try with_reducible rfl))
        try simp only [Act.put, List.setIfInBounds_toArray, List.set_cons_zero, List.set_cons_succ]
        refine wpAnyH_take (i := 10) (oi := { dst := some 84, op := Op.binOp BinOp.gtr 3 (Operand.tmp 83) (Operand.const (Value.int IntKind.i64 0)) 3, type := 4, pos := "ref.go:106", after := #[{ on := 9, ground := Ground.data }, { on := 4, ground := Ground.guard }], guard := some (4, false) }) (v := ?vqb12r27o10n11) rfl (by kernel_rfl) (by kernel_rfl) (by kernel_rfl) (fun _ _ _ h => h) (Or.inl ⟨by rfl, ?hqb12r27o10n11⟩) hS ?_
        case hqb12r27o10n11 => (intro wx hx; skip; go_simp; (try with_reducible rfl))
        try simp only [Act.put, List.setIfInBounds_toArray, List.set_cons_zero, List.set_cons_succ]
        refine wpAnyH_take (i := 11) (oi := { dst := some 85, op := Op.pick (Operand.tmp 78) (Operand.const (Value.bool true)) (Operand.tmp 84), type := 4, pos := "ref.go:106", after := #[{ on := 4, ground := Ground.data }, { on := 10, ground := Ground.data }], guard := none }) (v := ?vqb12r27o11n12) rfl (by kernel_rfl) (by kernel_rfl) (by kernel_rfl) (fun _ _ _ h => h) (Or.inl ⟨by rfl, ?hqb12r27o11n12⟩) hS ?_
        case hqb12r27o11n12 => (intro wx hx; skip; go_simp; (try with_reducible rfl))
        try simp only [Act.put, List.setIfInBounds_toArray, List.set_cons_zero, List.set_cons_succ]
        refine wpAnyH_take (i := 12) (oi := { dst := some 86, op := Op.move (Operand.tmp 85), type := 4, pos := "ref.go:106", after := #[{ on := 11, ground := Ground.data }, { on := 4, ground := Ground.chain }], guard := none }) (v := ?vqb12r27o12n13) rfl (by kernel_rfl) (by kernel_rfl) (by kernel_rfl) (fun _ _ _ h => h) (Or.inl ⟨by rfl, ?hqb12r27o12n13⟩) hS ?_
        case hqb12r27o12n13 => (intro wx hx; skip; go_simp; (try with_reducible rfl))
        try simp only [Act.put, List.setIfInBounds_toArray, List.set_cons_zero, List.set_cons_succ]
        refine wpAnyH_take (i := 13) (oi := { dst := some 87, op := Op.load 24 (Operand.tmp 5), type := 24, pos := "ref.go:106", after := #[{ on := 12, ground := Ground.guard }], guard := some (12, false) }) (v := undef) rfl (by kernel_rfl) (by kernel_rfl) (by kernel_rfl) (fun _ _ _ h => h) (Or.inr ⟨by rfl, rfl⟩) hS ?_
        try simp only [Act.put, List.setIfInBounds_toArray, List.set_cons_zero, List.set_cons_succ]
        refine wpAnyH_take (i := 14) (oi := { dst := some 88, op := Op.call { callee := Callee.value (Operand.func 14), args := #[Operand.tmp 87], argTypes := #[24] }, type := 4, pos := "ref.go:106", after := #[{ on := 13, ground := Ground.data }, { on := 12, ground := Ground.chain }, { on := 12, ground := Ground.guard }], guard := some (12, false) }) (v := undef) rfl (by kernel_rfl) (by kernel_rfl) (by kernel_rfl) (fun _ _ _ h => h) (Or.inr ⟨by rfl, rfl⟩) hS ?_
        try simp only [Act.put, List.setIfInBounds_toArray, List.set_cons_zero, List.set_cons_succ]
        refine wpAnyH_take (i := 15) (oi := { dst := some 89, op := Op.unOp UnOp.not 4 (Operand.tmp 88), type := 4, pos := "ref.go:106", after := #[{ on := 14, ground := Ground.data }, { on := 12, ground := Ground.guard }], guard := some (12, false) }) (v := undef) rfl (by kernel_rfl) (by kernel_rfl) (by kernel_rfl) (fun _ _ _ h => h) (Or.inr ⟨by rfl, rfl⟩) hS ?_
        try simp only [Act.put, List.setIfInBounds_toArray, List.set_cons_zero, List.set_cons_succ]
        refine wpAnyH_take (i := 16) (oi := { dst := some 90, op := Op.pick (Operand.tmp 86) (Operand.const (Value.bool true)) (Operand.tmp 89), type := 4, pos := "ref.go:106", after := #[{ on := 12, ground := Ground.data }, { on := 15, ground := Ground.data }], guard := none }) (v := ?vqb12r27o16n17) rfl (by kernel_rfl) (by kernel_rfl) (by kernel_rfl) (fun _ _ _ h => h) (Or.inl ⟨by rfl, ?hqb12r27o16n17⟩) hS ?_
        case hqb12r27o16n17 => (intro wx hx; skip; go_simp; (try with_reducible rfl))
        try simp only [Act.put, List.setIfInBounds_toArray, List.set_cons_zero, List.set_cons_succ]
        refine wpAnyH_take (i := 17) (oi := { dst := some 91, op := Op.move (Operand.tmp 90), type := 4, pos := "ref.go:106", after := #[{ on := 16, ground := Ground.data }, { on := 14, ground := Ground.chain }], guard := none }) (v := ?vqb12r27o17n18) rfl (by kernel_rfl) (by kernel_rfl) (by kernel_rfl) (fun _ _ _ h => h) (Or.inl ⟨by rfl, ?hqb12r27o17n18⟩) hS ?_
        case hqb12r27o17n18 => (intro wx hx; skip; go_simp; (try with_reducible rfl))
        try simp only [Act.put, List.setIfInBounds_toArray, List.set_cons_zero, List.set_cons_succ]
        refine wpAnyH_take (i := 18) (oi := { dst := some 92, op := Op.load 24 (Operand.tmp 5), type := 24, pos := "ref.go:106", after := #[{ on := 17, ground := Ground.guard }], guard := some (17, false) }) (v := undef) rfl (by kernel_rfl) (by kernel_rfl) (by kernel_rfl) (fun _ _ _ h => h) (Or.inr ⟨by rfl, rfl⟩) hS ?_
        try simp only [Act.put, List.setIfInBounds_toArray, List.set_cons_zero, List.set_cons_succ]
        refine wpAnyH_take (i := 19) (oi := { dst := some 93, op := Op.call { callee := Callee.value (Operand.func 16), args := #[Operand.tmp 92], argTypes := #[24] }, type := 25, pos := "ref.go:106", after := #[{ on := 18, ground := Ground.data }, { on := 17, ground := Ground.chain }, { on := 17, ground := Ground.guard }], guard := some (17, false) }) (v := undef) rfl (by kernel_rfl) (by kernel_rfl) (by kernel_rfl) (fun _ _ _ h => h) (Or.inr ⟨by rfl, rfl⟩) hS ?_
        try simp only [Act.put, List.setIfInBounds_toArray, List.set_cons_zero, List.set_cons_succ]
        refine wpAnyH_take (i := 20) (oi := { dst := some 94, op := Op.convert 25 9 (Operand.tmp 93), type := 9, pos := "ref.go:106", after := #[{ on := 19, ground := Ground.data }, { on := 17, ground := Ground.guard }], guard := some (17, false) }) (v := undef) rfl (by kernel_rfl) (by kernel_rfl) (by kernel_rfl) (fun _ _ _ h => h) (Or.inr ⟨by rfl, rfl⟩) hS ?_
        try simp only [Act.put, List.setIfInBounds_toArray, List.set_cons_zero, List.set_cons_succ]
        refine wpAnyH_take (i := 21) (oi := { dst := some 95, op := Op.move (Operand.tmp 0), type := 25, pos := "ref.go:106", after := #[{ on := 17, ground := Ground.guard }], guard := some (17, false) }) (v := undef) rfl (by kernel_rfl) (by kernel_rfl) (by kernel_rfl) (fun _ _ _ h => h) (Or.inr ⟨by rfl, rfl⟩) hS ?_
        try simp only [Act.put, List.setIfInBounds_toArray, List.set_cons_zero, List.set_cons_succ]
        refine wpAnyH_take (i := 22) (oi := { dst := some 96, op := Op.convert 25 9 (Operand.tmp 95), type := 9, pos := "ref.go:106", after := #[{ on := 21, ground := Ground.data }, { on := 17, ground := Ground.guard }], guard := some (17, false) }) (v := undef) rfl (by kernel_rfl) (by kernel_rfl) (by kernel_rfl) (fun _ _ _ h => h) (Or.inr ⟨by rfl, rfl⟩) hS ?_
        try simp only [Act.put, List.setIfInBounds_toArray, List.set_cons_zero, List.set_cons_succ]
        refine wpAnyH_take (i := 23) (oi := { dst := some 97, op := Op.binOp BinOp.neq 9 (Operand.tmp 94) (Operand.tmp 96) 9, type := 4, pos := "ref.go:106", after := #[{ on := 20, ground := Ground.data }, { on := 22, ground := Ground.data }, { on := 17, ground := Ground.guard }], guard := some (17, false) }) (v := undef) rfl (by kernel_rfl) (by kernel_rfl) (by kernel_rfl) (fun _ _ _ h => h) (Or.inr ⟨by rfl, rfl⟩) hS ?_
        try simp only [Act.put, List.setIfInBounds_toArray, List.set_cons_zero, List.set_cons_succ]
        refine wpAnyH_take (i := 24) (oi := { dst := some 98, op := Op.pick (Operand.tmp 91) (Operand.const (Value.bool true)) (Operand.tmp 97), type := 4, pos := "ref.go:106", after := #[{ on := 17, ground := Ground.data }, { on := 23, ground := Ground.data }], guard := none }) (v := ?vqb12r27o24n25) rfl (by kernel_rfl) (by kernel_rfl) (by kernel_rfl) (fun _ _ _ h => h) (Or.inl ⟨by rfl, ?hqb12r27o24n25⟩) hS ?_
        case hqb12r27o24n25 => (intro wx hx; skip; go_simp; (try with_reducible rfl))
        try simp only [Act.put, List.setIfInBounds_toArray, List.set_cons_zero, List.set_cons_succ]
        refine wpAnyH_done (by kernel_rfl) ?_ _
        replace hO := Lib.hid (hO.out.quiet hS)
        clear ct0 ct1 c0 c1 c2 c3 c4 c5 c6 c7 hraw hS
        go_upto_region 28 with fail
        obtain ⟨z0, z0z⟩ := own_cellB hO.out 0 rfl 0 (u := .int .u8 0) rfl
        obtain ⟨z1, z1z⟩ := own_cellB hO.out 0 rfl 1 (u := .int .u8 0) rfl
        obtain ⟨z2, z2z⟩ := own_cellB hO.out 0 rfl 2 (u := .int .u64 0) rfl
        obtain ⟨z3, z3z⟩ := own_cellB hO.out 0 rfl 3 (u := .int .u64 0) rfl
        obtain ⟨z4, z4z⟩ := own_cellB hO.out 0 rfl 4 (u := .int .u64 0) rfl
        obtain ⟨z5, z5z⟩ := own_cellB hO.out 0 rfl 5 (u := .string ⟨#[]⟩) rfl
        obtain ⟨z6, z6z⟩ := own_cellB hO.out 0 rfl 6 (u := .string ⟨#[]⟩) rfl
        obtain ⟨z7, z7z⟩ := own_cellB hO.out 0 rfl 7 (u := .string ⟨#[]⟩) rfl
        have hF : Hid (Grommet.Own w ((((((((wD.setCell ⟨Z, 0, none⟩ (.int .u8 0)).setCell ⟨Z, 1, none⟩ (.int .u8 0)).setCell ⟨Z, 2, none⟩ (.int .u64 0)).setCell ⟨Z, 3, none⟩ (.int .u64 0)).setCell ⟨Z, 4, none⟩ (.int .u64 0)).setCell ⟨Z, 5, none⟩ (.string ⟨#[]⟩)).setCell ⟨Z, 6, none⟩ (.string ⟨#[]⟩)).setCell ⟨Z, 7, none⟩ (.string ⟨#[]⟩)) [boxP Z 24 zeroRq.cs, rtP w X (bs.drop a) false, boxP R 24 x.cs]) := Lib.hid (own_fill hO.out 0 rfl (cs := #[.int .u8 0, .int .u8 0, .int .u64 0, .int .u64 0, .int .u64 0, .string ⟨#[]⟩, .string ⟨#[]⟩, .string ⟨#[]⟩]) rfl zeroRq)
        obtain ⟨W3, hW3⟩ : ∃ W3, ((((((((wD.setCell ⟨Z, 0, none⟩ (.int .u8 0)).setCell ⟨Z, 1, none⟩ (.int .u8 0)).setCell ⟨Z, 2, none⟩ (.int .u64 0)).setCell ⟨Z, 3, none⟩ (.int .u64 0)).setCell ⟨Z, 4, none⟩ (.int .u64 0)).setCell ⟨Z, 5, none⟩ (.string ⟨#[]⟩)).setCell ⟨Z, 6, none⟩ (.string ⟨#[]⟩)).setCell ⟨Z, 7, none⟩ (.string ⟨#[]⟩)) = W3 := ⟨_, rfl⟩
        rw [hW3] at hF
        clear hO
        go_wp2
        try rw [hW3]
        clear hW3 z0 z0z z1 z1z z2 z2z z3 z3z z4 z4z z5 z5z z6 z6z z7 z7z
        have x0 := (own_cellB hF.out 0 rfl 0 (u := .int .u8 0) rfl).1
        have x1 := (own_cellB hF.out 0 rfl 1 (u := .int .u8 0) rfl).1
        have x2 := (own_cellB hF.out 0 rfl 2 (u := .int .u64 0) rfl).1
        have x3 := (own_cellB hF.out 0 rfl 3 (u := .int .u64 0) rfl).1
        have x4 := (own_cellB hF.out 0 rfl 4 (u := .int .u64 0) rfl).1
        have x5 := (own_cellB hF.out 0 rfl 5 (u := .string ⟨#[]⟩) rfl).1
        have x6 := (own_cellB hF.out 0 rfl 6 (u := .string ⟨#[]⟩) rfl).1
        have x7 := (own_cellB hF.out 0 rfl 7 (u := .string ⟨#[]⟩) rfl).1
        exact bodyPost_ret (v := .tuple #[.agg #[.int .u8 0, .int .u8 0, .int .u64 0, .int .u64 0, .int .u64 0, .string ⟨#[]⟩, .string ⟨#[]⟩, .string ⟨#[]⟩], .int .i64 4]) (by simp [results, Try.results12, go_sem, x0, x1, x2, x3, x4, x5, x6, x7]) rfl ⟨by rw [HN.out.1, HN.out.2]; rfl, hF.out.grown⟩
      · have hl0 : ¬ (0 : Int) < (len : Int) := by omega
        have d0 : decide ((0 : Int) < (len : Int)) = false := by simp; omega
        have d1 : decide (0 < len) = false := by simp; omega
        have d2 : ¬ 0 < len := by omega
        clear hlen ha
        cases m with
        | false =>
          have HN := Lib.hid (HF.out.no (.inr (.inr (.inl HMq.out))))
          go_upto_region 27 with fail
          refine wp_region_held_drew (S := fun wx => World.grownBy wc wx none) (by kernel_rfl) (grown_drew (World.grownBy.refl _ none)) (fun hS => ?_)
          generalize World.drew _ = wD at hS ⊢
          refine wpAnyH_take (i := 0) (oi := { dst := some 74, op := Op.move (Operand.tmp 4), type := 55, pos := "ref.go:106", after := #[], guard := none }) (v := ?vqc12r27o0n1) rfl (by kernel_rfl) (by kernel_rfl) (by kernel_rfl) (fun _ _ _ h => h) (Or.inl ⟨by rfl, ?hqc12r27o0n1⟩) hS ?_
          case hqc12r27o0n1 => (intro wx hx; skip; go_simp; (try with_reducible rfl))
          try simp only [Act.put, List.setIfInBounds_toArray, List.set_cons_zero, List.set_cons_succ]
          refine wpAnyH_take (i := 1) (oi := { dst := some 75, op := Op.nilCheck (Operand.tmp 74), type := 0, pos := "ref.go:106", after := #[{ on := 0, ground := Ground.data }], guard := none }) (v := ?vqc12r27o1n2) rfl (by kernel_rfl) (by kernel_rfl) (by kernel_rfl) (fun _ _ _ h => h) (Or.inl ⟨by rfl, ?hqc12r27o1n2⟩) hS ?_
          case hqc12r27o1n2 => (intro wx hx; skip; go_simp; (try with_reducible rfl))
          try simp only [Act.put, List.setIfInBounds_toArray, List.set_cons_zero, List.set_cons_succ]
          refine wpAnyH_take (i := 2) (oi := { dst := some 76, op := Op.fieldAddr 57 (Operand.tmp 75) 1, type := 0, pos := "ref.go:106", after := #[{ on := 1, ground := Ground.data }], guard := none }) (v := ?vqc12r27o2n3) rfl (by kernel_rfl) (by kernel_rfl) (by kernel_rfl) (fun _ _ _ h => h) (Or.inl ⟨by rfl, ?hqc12r27o2n3⟩) hS ?_
          case hqc12r27o2n3 => (intro wx hx; skip; go_simp; (try with_reducible rfl))
          try simp only [Act.put, List.setIfInBounds_toArray, List.set_cons_zero, List.set_cons_succ]
          refine wpAnyH_take (i := 3) (oi := { dst := some 77, op := Op.load 4 (Operand.tmp 76), type := 4, pos := "ref.go:106", after := #[{ on := 2, ground := Ground.data }], guard := none }) (v := ?vqc12r27o3n4) rfl (by kernel_rfl) (by kernel_rfl) (by kernel_rfl) (fun _ _ _ h => h) (Or.inl ⟨by rfl, ?hqc12r27o3n4⟩) hS ?_
          case hqc12r27o3n4 => (intro wx hx; have yt0 := hx.cell ct0 (by simp); have yt1 := hx.cell ct1 (by simp); have y0 := hx.cell c0 (by simp); have y1 := hx.cell c1 (by simp); have y2 := hx.cell c2 (by simp); have y3 := hx.cell c3 (by simp); have y4 := hx.cell c4 (by simp); have y5 := hx.cell c5 (by simp); have y6 := hx.cell c6 (by simp); have y7 := hx.cell c7 (by simp); have hcv1 := conv_at (P := Try.prog) (w := wx) 25 9 5 Try.underlying25 Try.underlying5 Try.underlying9 (hraw.out.grown hx (fun _ _ _ => by simp)) Hl.out (fun e => (Hnil.out e).1) (cap := cap0); go_simp; (try with_reducible rfl))
          try simp only [Act.put, List.setIfInBounds_toArray, List.set_cons_zero, List.set_cons_succ]
          refine wpAnyH_take (i := 4) (oi := { dst := some 78, op := Op.move (Operand.tmp 77), type := 4, pos := "ref.go:106", after := #[{ on := 3, ground := Ground.data }], guard := none }) (v := ?vqc12r27o4n5) rfl (by kernel_rfl) (by kernel_rfl) (by kernel_rfl) (fun _ _ _ h => h) (Or.inl ⟨by rfl, ?hqc12r27o4n5⟩) hS ?_
          case hqc12r27o4n5 => (intro wx hx; skip; go_simp; (try with_reducible rfl))
          try simp only [Act.put, List.setIfInBounds_toArray, List.set_cons_zero, List.set_cons_succ]
          refine wpAnyH_take (i := 5) (oi := { dst := some 79, op := Op.move (Operand.tmp 4), type := 55, pos := "ref.go:106", after := #[{ on := 4, ground := Ground.guard }], guard := some (4, false) }) (v := ?vqc12r27o5n6) rfl (by kernel_rfl) (by kernel_rfl) (by kernel_rfl) (fun _ _ _ h => h) (Or.inl ⟨by rfl, ?hqc12r27o5n6⟩) hS ?_
          case hqc12r27o5n6 => (intro wx hx; skip; go_simp; (try with_reducible rfl))
          try simp only [Act.put, List.setIfInBounds_toArray, List.set_cons_zero, List.set_cons_succ]
          refine wpAnyH_take (i := 6) (oi := { dst := some 80, op := Op.nilCheck (Operand.tmp 79), type := 0, pos := "ref.go:106", after := #[{ on := 5, ground := Ground.data }, { on := 4, ground := Ground.guard }], guard := some (4, false) }) (v := ?vqc12r27o6n7) rfl (by kernel_rfl) (by kernel_rfl) (by kernel_rfl) (fun _ _ _ h => h) (Or.inl ⟨by rfl, ?hqc12r27o6n7⟩) hS ?_
          case hqc12r27o6n7 => (intro wx hx; skip; go_simp; (try with_reducible rfl))
          try simp only [Act.put, List.setIfInBounds_toArray, List.set_cons_zero, List.set_cons_succ]
          refine wpAnyH_take (i := 7) (oi := { dst := some 81, op := Op.fieldAddr 57 (Operand.tmp 80) 0, type := 0, pos := "ref.go:106", after := #[{ on := 6, ground := Ground.data }, { on := 4, ground := Ground.guard }], guard := some (4, false) }) (v := ?vqc12r27o7n8) rfl (by kernel_rfl) (by kernel_rfl) (by kernel_rfl) (fun _ _ _ h => h) (Or.inl ⟨by rfl, ?hqc12r27o7n8⟩) hS ?_
          case hqc12r27o7n8 => (intro wx hx; skip; go_simp; (try with_reducible rfl))
          try simp only [Act.put, List.setIfInBounds_toArray, List.set_cons_zero, List.set_cons_succ]
          refine wpAnyH_take (i := 8) (oi := { dst := some 82, op := Op.load 25 (Operand.tmp 81), type := 25, pos := "ref.go:106", after := #[{ on := 7, ground := Ground.data }, { on := 4, ground := Ground.guard }], guard := some (4, false) }) (v := ?vqc12r27o8n9) rfl (by kernel_rfl) (by kernel_rfl) (by kernel_rfl) (fun _ _ _ h => h) (Or.inl ⟨by rfl, ?hqc12r27o8n9⟩) hS ?_
          case hqc12r27o8n9 => (intro wx hx; have yt0 := hx.cell ct0 (by simp); have yt1 := hx.cell ct1 (by simp); have y0 := hx.cell c0 (by simp); have y1 := hx.cell c1 (by simp); have y2 := hx.cell c2 (by simp); have y3 := hx.cell c3 (by simp); have y4 := hx.cell c4 (by simp); have y5 := hx.cell c5 (by simp); have y6 := hx.cell c6 (by simp); have y7 := hx.cell c7 (by simp); have hcv1 := conv_at (P := Try.prog) (w := wx) 25 9 5 Try.underlying25 Try.underlying5 Try.underlying9 (hraw.out.grown hx (fun _ _ _ => by simp)) Hl.out (fun e => (Hnil.out e).1) (cap := cap0); go_simp; (try with_reducible rfl))
          try simp only [Act.put, List.setIfInBounds_toArray, List.set_cons_zero, List.set_cons_succ]
          refine wpAnyH_take (i := 9) (oi := { dst := some 83, op := Op.call { callee := Callee.builtin Builtin.len, args := #[Operand.tmp 82], argTypes := #[25] }, type := 3, pos := "ref.go:106", after := #[{ on := 8, ground := Ground.data }, { on := 4, ground := Ground.guard }], guard := some (4, false) }) (v := ?vqc12r27o9n10) rfl (by kernel_rfl) (by kernel_rfl) (by kernel_rfl) (fun _ _ _ h => h) (Or.inl ⟨by rfl, ?hqc12r27o9n10⟩) hS ?_
          case hqc12r27o9n10 => (intro wx hx; skip; go_simp; (try with_reducible rfl))
          try simp only [Act.put, List.setIfInBounds_toArray, List.set_cons_zero, List.set_cons_succ]
          refine wpAnyH_take (i := 10) (oi := { dst := some 84, op := Op.binOp BinOp.gtr 3 (Operand.tmp 83) (Operand.const (Value.int IntKind.i64 0)) 3, type := 4, pos := "ref.go:106", after := #[{ on := 9, ground := Ground.data }, { on := 4, ground := Ground.guard }], guard := some (4, false) }) (v := ?vqc12r27o10n11) rfl (by kernel_rfl) (by kernel_rfl) (by kernel_rfl) (fun _ _ _ h => h) (Or.inl ⟨by rfl, ?hqc12r27o10n11⟩) hS ?_
          case hqc12r27o10n11 => (intro wx hx; skip; go_simp; (try with_reducible rfl))
          try simp only [Act.put, List.setIfInBounds_toArray, List.set_cons_zero, List.set_cons_succ]
          refine wpAnyH_take (i := 11) (oi := { dst := some 85, op := Op.pick (Operand.tmp 78) (Operand.const (Value.bool true)) (Operand.tmp 84), type := 4, pos := "ref.go:106", after := #[{ on := 4, ground := Ground.data }, { on := 10, ground := Ground.data }], guard := none }) (v := ?vqc12r27o11n12) rfl (by kernel_rfl) (by kernel_rfl) (by kernel_rfl) (fun _ _ _ h => h) (Or.inl ⟨by rfl, ?hqc12r27o11n12⟩) hS ?_
          case hqc12r27o11n12 => (intro wx hx; skip; go_simp; (try with_reducible rfl))
          try simp only [Act.put, List.setIfInBounds_toArray, List.set_cons_zero, List.set_cons_succ]
          refine wpAnyH_take (i := 12) (oi := { dst := some 86, op := Op.move (Operand.tmp 85), type := 4, pos := "ref.go:106", after := #[{ on := 11, ground := Ground.data }, { on := 4, ground := Ground.chain }], guard := none }) (v := ?vqc12r27o12n13) rfl (by kernel_rfl) (by kernel_rfl) (by kernel_rfl) (fun _ _ _ h => h) (Or.inl ⟨by rfl, ?hqc12r27o12n13⟩) hS ?_
          case hqc12r27o12n13 => (intro wx hx; skip; go_simp; (try with_reducible rfl))
          try simp only [Act.put, List.setIfInBounds_toArray, List.set_cons_zero, List.set_cons_succ]
          refine wpAnyH_take (i := 13) (oi := { dst := some 87, op := Op.load 24 (Operand.tmp 5), type := 24, pos := "ref.go:106", after := #[{ on := 12, ground := Ground.guard }], guard := some (12, false) }) (v := ?vqc12r27o13n14) rfl (by kernel_rfl) (by kernel_rfl) (by kernel_rfl) (fun _ _ _ h => h) (Or.inl ⟨by rfl, ?hqc12r27o13n14⟩) hS ?_
          case hqc12r27o13n14 => (intro wx hx; have yt0 := hx.cell ct0 (by simp); have yt1 := hx.cell ct1 (by simp); have y0 := hx.cell c0 (by simp); have y1 := hx.cell c1 (by simp); have y2 := hx.cell c2 (by simp); have y3 := hx.cell c3 (by simp); have y4 := hx.cell c4 (by simp); have y5 := hx.cell c5 (by simp); have y6 := hx.cell c6 (by simp); have y7 := hx.cell c7 (by simp); have hcv1 := conv_at (P := Try.prog) (w := wx) 25 9 5 Try.underlying25 Try.underlying5 Try.underlying9 (hraw.out.grown hx (fun _ _ _ => by simp)) Hl.out (fun e => (Hnil.out e).1) (cap := cap0); go_simp; (try with_reducible rfl))
          try simp only [Act.put, List.setIfInBounds_toArray, List.set_cons_zero, List.set_cons_succ]
          refine wpAnyH_ready (rs := [14]) (by kernel_rfl) (by simp) ?_
          refine AllReadyH.cons (o := { dst := some 88, op := Op.call { callee := Callee.value (Operand.func 14), args := #[Operand.tmp 87], argTypes := #[24] }, type := 4, pos := "ref.go:106", after := #[{ on := 13, ground := Ground.data }, { on := 12, ground := Ground.chain }, { on := 12, ground := Ground.guard }], guard := some (12, false) }) rfl (fun K hK => ?_) AllReadyH.nil
          go_simp
          refine (HM.out _).mono ?_
          rintro e w5 ⟨rfl, hg⟩
          have hS1 := grown_trans hS hg
          clear hg
          refine hK.out _ _ ?hsqc12r27o14n15 (fun hS => ?_)
          case hsqc12r27o14n15 => (exact hS1)
          clear hK K
          try simp only [Act.put, List.setIfInBounds_toArray, List.set_cons_zero, List.set_cons_succ]
          refine wpAnyH_take (i := 15) (oi := { dst := some 89, op := Op.unOp UnOp.not 4 (Operand.tmp 88), type := 4, pos := "ref.go:106", after := #[{ on := 14, ground := Ground.data }, { on := 12, ground := Ground.guard }], guard := some (12, false) }) (v := ?vqc12r27o15n16) rfl (by kernel_rfl) (by kernel_rfl) (by kernel_rfl) (fun _ _ _ h => h) (Or.inl ⟨by rfl, ?hqc12r27o15n16⟩) hS ?_
          case hqc12r27o15n16 => (intro wx hx; skip; go_simp; (try with_reducible rfl))
          try simp only [Act.put, List.setIfInBounds_toArray, List.set_cons_zero, List.set_cons_succ]
          refine wpAnyH_take (i := 16) (oi := { dst := some 90, op := Op.pick (Operand.tmp 86) (Operand.const (Value.bool true)) (Operand.tmp 89), type := 4, pos := "ref.go:106", after := #[{ on := 12, ground := Ground.data }, { on := 15, ground := Ground.data }], guard := none }) (v := ?vqc12r27o16n17) rfl (by kernel_rfl) (by kernel_rfl) (by kernel_rfl) (fun _ _ _ h => h) (Or.inl ⟨by rfl, ?hqc12r27o16n17⟩) hS ?_
          case hqc12r27o16n17 => (intro wx hx; skip; go_simp; (try with_reducible rfl))
          try simp only [Act.put, List.setIfInBounds_toArray, List.set_cons_zero, List.set_cons_succ]
          refine wpAnyH_take (i := 17) (oi := { dst := some 91, op := Op.move (Operand.tmp 90), type := 4, pos := "ref.go:106", after := #[{ on := 16, ground := Ground.data }, { on := 14, ground := Ground.chain }], guard := none }) (v := ?vqc12r27o17n18) rfl (by kernel_rfl) (by kernel_rfl) (by kernel_rfl) (fun _ _ _ h => h) (Or.inl ⟨by rfl, ?hqc12r27o17n18⟩) hS ?_
          case hqc12r27o17n18 => (intro wx hx; skip; go_simp; (try with_reducible rfl))
          try simp only [Act.put, List.setIfInBounds_toArray, List.set_cons_zero, List.set_cons_succ]
          refine wpAnyH_take (i := 18) (oi := { dst := some 92, op := Op.load 24 (Operand.tmp 5), type := 24, pos := "ref.go:106", after := #[{ on := 17, ground := Ground.guard }], guard := some (17, false) }) (v := undef) rfl (by kernel_rfl) (by kernel_rfl) (by kernel_rfl) (fun _ _ _ h => h) (Or.inr ⟨by rfl, rfl⟩) hS ?_
          try simp only [Act.put, List.setIfInBounds_toArray, List.set_cons_zero, List.set_cons_succ]
          refine wpAnyH_take (i := 19) (oi := { dst := some 93, op := Op.call { callee := Callee.value (Operand.func 16), args := #[Operand.tmp 92], argTypes := #[24] }, type := 25, pos := "ref.go:106", after := #[{ on := 18, ground := Ground.data }, { on := 17, ground := Ground.chain }, { on := 17, ground := Ground.guard }], guard := some (17, false) }) (v := undef) rfl (by kernel_rfl) (by kernel_rfl) (by kernel_rfl) (fun _ _ _ h => h) (Or.inr ⟨by rfl, rfl⟩) hS ?_
          try simp only [Act.put, List.setIfInBounds_toArray, List.set_cons_zero, List.set_cons_succ]
          refine wpAnyH_take (i := 20) (oi := { dst := some 94, op := Op.convert 25 9 (Operand.tmp 93), type := 9, pos := "ref.go:106", after := #[{ on := 19, ground := Ground.data }, { on := 17, ground := Ground.guard }], guard := some (17, false) }) (v := undef) rfl (by kernel_rfl) (by kernel_rfl) (by kernel_rfl) (fun _ _ _ h => h) (Or.inr ⟨by rfl, rfl⟩) hS ?_
          try simp only [Act.put, List.setIfInBounds_toArray, List.set_cons_zero, List.set_cons_succ]
          refine wpAnyH_take (i := 21) (oi := { dst := some 95, op := Op.move (Operand.tmp 0), type := 25, pos := "ref.go:106", after := #[{ on := 17, ground := Ground.guard }], guard := some (17, false) }) (v := undef) rfl (by kernel_rfl) (by kernel_rfl) (by kernel_rfl) (fun _ _ _ h => h) (Or.inr ⟨by rfl, rfl⟩) hS ?_
          try simp only [Act.put, List.setIfInBounds_toArray, List.set_cons_zero, List.set_cons_succ]
          refine wpAnyH_take (i := 22) (oi := { dst := some 96, op := Op.convert 25 9 (Operand.tmp 95), type := 9, pos := "ref.go:106", after := #[{ on := 21, ground := Ground.data }, { on := 17, ground := Ground.guard }], guard := some (17, false) }) (v := undef) rfl (by kernel_rfl) (by kernel_rfl) (by kernel_rfl) (fun _ _ _ h => h) (Or.inr ⟨by rfl, rfl⟩) hS ?_
          try simp only [Act.put, List.setIfInBounds_toArray, List.set_cons_zero, List.set_cons_succ]
          refine wpAnyH_take (i := 23) (oi := { dst := some 97, op := Op.binOp BinOp.neq 9 (Operand.tmp 94) (Operand.tmp 96) 9, type := 4, pos := "ref.go:106", after := #[{ on := 20, ground := Ground.data }, { on := 22, ground := Ground.data }, { on := 17, ground := Ground.guard }], guard := some (17, false) }) (v := undef) rfl (by kernel_rfl) (by kernel_rfl) (by kernel_rfl) (fun _ _ _ h => h) (Or.inr ⟨by rfl, rfl⟩) hS ?_
          try simp only [Act.put, List.setIfInBounds_toArray, List.set_cons_zero, List.set_cons_succ]
          refine wpAnyH_take (i := 24) (oi := { dst := some 98, op := Op.pick (Operand.tmp 91) (Operand.const (Value.bool true)) (Operand.tmp 97), type := 4, pos := "ref.go:106", after := #[{ on := 17, ground := Ground.data }, { on := 23, ground := Ground.data }], guard := none }) (v := ?vqc12r27o24n25) rfl (by kernel_rfl) (by kernel_rfl) (by kernel_rfl) (fun _ _ _ h => h) (Or.inl ⟨by rfl, ?hqc12r27o24n25⟩) hS ?_
          case hqc12r27o24n25 => (intro wx hx; skip; go_simp; (try with_reducible rfl))
          try simp only [Act.put, List.setIfInBounds_toArray, List.set_cons_zero, List.set_cons_succ]
          refine wpAnyH_done (by kernel_rfl) ?_ _
          replace hO := Lib.hid (hO.out.quiet hS)
          clear ct0 ct1 c0 c1 c2 c3 c4 c5 c6 c7 hraw hS
          go_upto_region 28 with fail
          obtain ⟨z0, z0z⟩ := own_cellB hO.out 0 rfl 0 (u := .int .u8 0) rfl
          obtain ⟨z1, z1z⟩ := own_cellB hO.out 0 rfl 1 (u := .int .u8 0) rfl
          obtain ⟨z2, z2z⟩ := own_cellB hO.out 0 rfl 2 (u := .int .u64 0) rfl
          obtain ⟨z3, z3z⟩ := own_cellB hO.out 0 rfl 3 (u := .int .u64 0) rfl
          obtain ⟨z4, z4z⟩ := own_cellB hO.out 0 rfl 4 (u := .int .u64 0) rfl
          obtain ⟨z5, z5z⟩ := own_cellB hO.out 0 rfl 5 (u := .string ⟨#[]⟩) rfl
          obtain ⟨z6, z6z⟩ := own_cellB hO.out 0 rfl 6 (u := .string ⟨#[]⟩) rfl
          obtain ⟨z7, z7z⟩ := own_cellB hO.out 0 rfl 7 (u := .string ⟨#[]⟩) rfl
          have hF : Hid (Grommet.Own w ((((((((w5.setCell ⟨Z, 0, none⟩ (.int .u8 0)).setCell ⟨Z, 1, none⟩ (.int .u8 0)).setCell ⟨Z, 2, none⟩ (.int .u64 0)).setCell ⟨Z, 3, none⟩ (.int .u64 0)).setCell ⟨Z, 4, none⟩ (.int .u64 0)).setCell ⟨Z, 5, none⟩ (.string ⟨#[]⟩)).setCell ⟨Z, 6, none⟩ (.string ⟨#[]⟩)).setCell ⟨Z, 7, none⟩ (.string ⟨#[]⟩)) [boxP Z 24 zeroRq.cs, rtP w X (bs.drop a) false, boxP R 24 x.cs]) := Lib.hid (own_fill hO.out 0 rfl (cs := #[.int .u8 0, .int .u8 0, .int .u64 0, .int .u64 0, .int .u64 0, .string ⟨#[]⟩, .string ⟨#[]⟩, .string ⟨#[]⟩]) rfl zeroRq)
          obtain ⟨W3, hW3⟩ : ∃ W3, ((((((((w5.setCell ⟨Z, 0, none⟩ (.int .u8 0)).setCell ⟨Z, 1, none⟩ (.int .u8 0)).setCell ⟨Z, 2, none⟩ (.int .u64 0)).setCell ⟨Z, 3, none⟩ (.int .u64 0)).setCell ⟨Z, 4, none⟩ (.int .u64 0)).setCell ⟨Z, 5, none⟩ (.string ⟨#[]⟩)).setCell ⟨Z, 6, none⟩ (.string ⟨#[]⟩)).setCell ⟨Z, 7, none⟩ (.string ⟨#[]⟩)) = W3 := ⟨_, rfl⟩
          rw [hW3] at hF
          clear hO
          go_wp2
          try rw [hW3]
          clear hW3 z0 z0z z1 z1z z2 z2z z3 z3z z4 z4z z5 z5z z6 z6z z7 z7z
          have x0 := (own_cellB hF.out 0 rfl 0 (u := .int .u8 0) rfl).1
          have x1 := (own_cellB hF.out 0 rfl 1 (u := .int .u8 0) rfl).1
          have x2 := (own_cellB hF.out 0 rfl 2 (u := .int .u64 0) rfl).1
          have x3 := (own_cellB hF.out 0 rfl 3 (u := .int .u64 0) rfl).1
          have x4 := (own_cellB hF.out 0 rfl 4 (u := .int .u64 0) rfl).1
          have x5 := (own_cellB hF.out 0 rfl 5 (u := .string ⟨#[]⟩) rfl).1
          have x6 := (own_cellB hF.out 0 rfl 6 (u := .string ⟨#[]⟩) rfl).1
          have x7 := (own_cellB hF.out 0 rfl 7 (u := .string ⟨#[]⟩) rfl).1
          exact bodyPost_ret (v := .tuple #[.agg #[.int .u8 0, .int .u8 0, .int .u64 0, .int .u64 0, .int .u64 0, .string ⟨#[]⟩, .string ⟨#[]⟩, .string ⟨#[]⟩], .int .i64 4]) (by simp [results, Try.results12, go_sem, x0, x1, x2, x3, x4, x5, x6, x7]) rfl ⟨by rw [HN.out.1, HN.out.2]; rfl, hF.out.grown⟩
        | true =>
          have HP := Lib.hid (fun wx => RPut_any x Hx.out (may_few HMq.out) wx)
          unfold Rq.cs at HP
          obtain ⟨P, hP⟩ : ∃ P, putQ x = P := ⟨_, rfl⟩
          rw [hP] at HP
          have hne : ∀ wx, (binOp BinOp.neq 9 (.string (str P)) (.string (str bs))).run Try.prog wx = .ok (.bool (!decide (str P = str bs))) wx := fun wx => str_ne _ _ wx
          by_cases hpb : P = bs
          · have HN := Lib.hid (HF.out.yes HMq.out (hP.trans hpb))
            have hd : (!decide (str P = str bs)) = false := by rw [hpb]; simp
            rw [hd] at hne
            have hd2 : ((str P).toList == (str bs).toList) = true := by rw [hpb]; simp
            have Hd3 : Hid ((!(str P).toList == (str bs).toList) = false) := Lib.hid (by rw [hd2]; rfl)
            clear hd2 hd hpb hP
            go_upto_region 27 with fail
            refine wp_region_held_drew (S := fun wx => World.grownBy wc wx none) (by kernel_rfl) (grown_drew (World.grownBy.refl _ none)) (fun hS => ?_)
            generalize World.drew _ = wD at hS ⊢
            refine wpAnyH_take (i := 0) (oi := { dst := some 74, op := Op.move (Operand.tmp 4), type := 55, pos := "ref.go:106", after := #[], guard := none }) (v := ?vqd12r27o0n1) rfl (by kernel_rfl) (by kernel_rfl) (by kernel_rfl) (fun _ _ _ h => h) (Or.inl ⟨by rfl, ?hqd12r27o0n1⟩) hS ?_
            case hqd12r27o0n1 => (intro wx hx; skip; go_simp; (try with_reducible rfl))
            try simp only [Act.put, List.setIfInBounds_toArray, List.set_cons_zero, List.set_cons_succ]
            refine wpAnyH_take (i := 1) (oi := { dst := some 75, op := Op.nilCheck (Operand.tmp 74), type := 0, pos := "ref.go:106", after := #[{ on := 0, ground := Ground.data }], guard := none }) (v := ?vqd12r27o1n2) rfl (by kernel_rfl) (by kernel_rfl) (by kernel_rfl) (fun _ _ _ h => h) (Or.inl ⟨by rfl, ?hqd12r27o1n2⟩) hS ?_
            case hqd12r27o1n2 => (intro wx hx; skip; go_simp; (try with_reducible rfl))
            try simp only [Act.put, List.setIfInBounds_toArray, List.set_cons_zero, List.set_cons_succ]
            refine wpAnyH_take (i := 2) (oi := { dst := some 76, op := Op.fieldAddr 57 (Operand.tmp 75) 1, type := 0, pos := "ref.go:106", after := #[{ on := 1, ground := Ground.data }], guard := none }) (v := ?vqd12r27o2n3) rfl (by kernel_rfl) (by kernel_rfl) (by kernel_rfl) (fun _ _ _ h => h) (Or.inl ⟨by rfl, ?hqd12r27o2n3⟩) hS ?_
            case hqd12r27o2n3 => (intro wx hx; skip; go_simp; (try with_reducible rfl))
            try simp only [Act.put, List.setIfInBounds_toArray, List.set_cons_zero, List.set_cons_succ]
            refine wpAnyH_take (i := 3) (oi := { dst := some 77, op := Op.load 4 (Operand.tmp 76), type := 4, pos := "ref.go:106", after := #[{ on := 2, ground := Ground.data }], guard := none }) (v := ?vqd12r27o3n4) rfl (by kernel_rfl) (by kernel_rfl) (by kernel_rfl) (fun _ _ _ h => h) (Or.inl ⟨by rfl, ?hqd12r27o3n4⟩) hS ?_
            case hqd12r27o3n4 => (intro wx hx; have yt0 := hx.cell ct0 (by simp); have yt1 := hx.cell ct1 (by simp); have y0 := hx.cell c0 (by simp); have y1 := hx.cell c1 (by simp); have y2 := hx.cell c2 (by simp); have y3 := hx.cell c3 (by simp); have y4 := hx.cell c4 (by simp); have y5 := hx.cell c5 (by simp); have y6 := hx.cell c6 (by simp); have y7 := hx.cell c7 (by simp); have hcv1 := conv_at (P := Try.prog) (w := wx) 25 9 5 Try.underlying25 Try.underlying5 Try.underlying9 (hraw.out.grown hx (fun _ _ _ => by simp)) Hl.out (fun e => (Hnil.out e).1) (cap := cap0); go_simp; (try with_reducible rfl))
            try simp only [Act.put, List.setIfInBounds_toArray, List.set_cons_zero, List.set_cons_succ]
            refine wpAnyH_take (i := 4) (oi := { dst := some 78, op := Op.move (Operand.tmp 77), type := 4, pos := "ref.go:106", after := #[{ on := 3, ground := Ground.data }], guard := none }) (v := ?vqd12r27o4n5) rfl (by kernel_rfl) (by kernel_rfl) (by kernel_rfl) (fun _ _ _ h => h) (Or.inl ⟨by rfl, ?hqd12r27o4n5⟩) hS ?_
            case hqd12r27o4n5 => (intro wx hx; skip; go_simp; (try with_reducible rfl))
            try simp only [Act.put, List.setIfInBounds_toArray, List.set_cons_zero, List.set_cons_succ]
            refine wpAnyH_take (i := 5) (oi := { dst := some 79, op := Op.move (Operand.tmp 4), type := 55, pos := "ref.go:106", after := #[{ on := 4, ground := Ground.guard }], guard := some (4, false) }) (v := ?vqd12r27o5n6) rfl (by kernel_rfl) (by kernel_rfl) (by kernel_rfl) (fun _ _ _ h => h) (Or.inl ⟨by rfl, ?hqd12r27o5n6⟩) hS ?_
            case hqd12r27o5n6 => (intro wx hx; skip; go_simp; (try with_reducible rfl))
            try simp only [Act.put, List.setIfInBounds_toArray, List.set_cons_zero, List.set_cons_succ]
            refine wpAnyH_take (i := 6) (oi := { dst := some 80, op := Op.nilCheck (Operand.tmp 79), type := 0, pos := "ref.go:106", after := #[{ on := 5, ground := Ground.data }, { on := 4, ground := Ground.guard }], guard := some (4, false) }) (v := ?vqd12r27o6n7) rfl (by kernel_rfl) (by kernel_rfl) (by kernel_rfl) (fun _ _ _ h => h) (Or.inl ⟨by rfl, ?hqd12r27o6n7⟩) hS ?_
            case hqd12r27o6n7 => (intro wx hx; skip; go_simp; (try with_reducible rfl))
            try simp only [Act.put, List.setIfInBounds_toArray, List.set_cons_zero, List.set_cons_succ]
            refine wpAnyH_take (i := 7) (oi := { dst := some 81, op := Op.fieldAddr 57 (Operand.tmp 80) 0, type := 0, pos := "ref.go:106", after := #[{ on := 6, ground := Ground.data }, { on := 4, ground := Ground.guard }], guard := some (4, false) }) (v := ?vqd12r27o7n8) rfl (by kernel_rfl) (by kernel_rfl) (by kernel_rfl) (fun _ _ _ h => h) (Or.inl ⟨by rfl, ?hqd12r27o7n8⟩) hS ?_
            case hqd12r27o7n8 => (intro wx hx; skip; go_simp; (try with_reducible rfl))
            try simp only [Act.put, List.setIfInBounds_toArray, List.set_cons_zero, List.set_cons_succ]
            refine wpAnyH_take (i := 8) (oi := { dst := some 82, op := Op.load 25 (Operand.tmp 81), type := 25, pos := "ref.go:106", after := #[{ on := 7, ground := Ground.data }, { on := 4, ground := Ground.guard }], guard := some (4, false) }) (v := ?vqd12r27o8n9) rfl (by kernel_rfl) (by kernel_rfl) (by kernel_rfl) (fun _ _ _ h => h) (Or.inl ⟨by rfl, ?hqd12r27o8n9⟩) hS ?_
            case hqd12r27o8n9 => (intro wx hx; have yt0 := hx.cell ct0 (by simp); have yt1 := hx.cell ct1 (by simp); have y0 := hx.cell c0 (by simp); have y1 := hx.cell c1 (by simp); have y2 := hx.cell c2 (by simp); have y3 := hx.cell c3 (by simp); have y4 := hx.cell c4 (by simp); have y5 := hx.cell c5 (by simp); have y6 := hx.cell c6 (by simp); have y7 := hx.cell c7 (by simp); have hcv1 := conv_at (P := Try.prog) (w := wx) 25 9 5 Try.underlying25 Try.underlying5 Try.underlying9 (hraw.out.grown hx (fun _ _ _ => by simp)) Hl.out (fun e => (Hnil.out e).1) (cap := cap0); go_simp; (try with_reducible rfl))
            try simp only [Act.put, List.setIfInBounds_toArray, List.set_cons_zero, List.set_cons_succ]
            refine wpAnyH_take (i := 9) (oi := { dst := some 83, op := Op.call { callee := Callee.builtin Builtin.len, args := #[Operand.tmp 82], argTypes := #[25] }, type := 3, pos := "ref.go:106", after := #[{ on := 8, ground := Ground.data }, { on := 4, ground := Ground.guard }], guard := some (4, false) }) (v := ?vqd12r27o9n10) rfl (by kernel_rfl) (by kernel_rfl) (by kernel_rfl) (fun _ _ _ h => h) (Or.inl ⟨by rfl, ?hqd12r27o9n10⟩) hS ?_
            case hqd12r27o9n10 => (intro wx hx; skip; go_simp; (try with_reducible rfl))
            try simp only [Act.put, List.setIfInBounds_toArray, List.set_cons_zero, List.set_cons_succ]
            refine wpAnyH_take (i := 10) (oi := { dst := some 84, op := Op.binOp BinOp.gtr 3 (Operand.tmp 83) (Operand.const (Value.int IntKind.i64 0)) 3, type := 4, pos := "ref.go:106", after := #[{ on := 9, ground := Ground.data }, { on := 4, ground := Ground.guard }], guard := some (4, false) }) (v := ?vqd12r27o10n11) rfl (by kernel_rfl) (by kernel_rfl) (by kernel_rfl) (fun _ _ _ h => h) (Or.inl ⟨by rfl, ?hqd12r27o10n11⟩) hS ?_
            case hqd12r27o10n11 => (intro wx hx; skip; go_simp; (try with_reducible rfl))
            try simp only [Act.put, List.setIfInBounds_toArray, List.set_cons_zero, List.set_cons_succ]
            refine wpAnyH_take (i := 11) (oi := { dst := some 85, op := Op.pick (Operand.tmp 78) (Operand.const (Value.bool true)) (Operand.tmp 84), type := 4, pos := "ref.go:106", after := #[{ on := 4, ground := Ground.data }, { on := 10, ground := Ground.data }], guard := none }) (v := ?vqd12r27o11n12) rfl (by kernel_rfl) (by kernel_rfl) (by kernel_rfl) (fun _ _ _ h => h) (Or.inl ⟨by rfl, ?hqd12r27o11n12⟩) hS ?_
            case hqd12r27o11n12 => (intro wx hx; skip; go_simp; (try with_reducible rfl))
            try simp only [Act.put, List.setIfInBounds_toArray, List.set_cons_zero, List.set_cons_succ]
            refine wpAnyH_take (i := 12) (oi := { dst := some 86, op := Op.move (Operand.tmp 85), type := 4, pos := "ref.go:106", after := #[{ on := 11, ground := Ground.data }, { on := 4, ground := Ground.chain }], guard := none }) (v := ?vqd12r27o12n13) rfl (by kernel_rfl) (by kernel_rfl) (by kernel_rfl) (fun _ _ _ h => h) (Or.inl ⟨by rfl, ?hqd12r27o12n13⟩) hS ?_
            case hqd12r27o12n13 => (intro wx hx; skip; go_simp; (try with_reducible rfl))
            try simp only [Act.put, List.setIfInBounds_toArray, List.set_cons_zero, List.set_cons_succ]
            refine wpAnyH_take (i := 13) (oi := { dst := some 87, op := Op.load 24 (Operand.tmp 5), type := 24, pos := "ref.go:106", after := #[{ on := 12, ground := Ground.guard }], guard := some (12, false) }) (v := ?vqd12r27o13n14) rfl (by kernel_rfl) (by kernel_rfl) (by kernel_rfl) (fun _ _ _ h => h) (Or.inl ⟨by rfl, ?hqd12r27o13n14⟩) hS ?_
            case hqd12r27o13n14 => (intro wx hx; have yt0 := hx.cell ct0 (by simp); have yt1 := hx.cell ct1 (by simp); have y0 := hx.cell c0 (by simp); have y1 := hx.cell c1 (by simp); have y2 := hx.cell c2 (by simp); have y3 := hx.cell c3 (by simp); have y4 := hx.cell c4 (by simp); have y5 := hx.cell c5 (by simp); have y6 := hx.cell c6 (by simp); have y7 := hx.cell c7 (by simp); have hcv1 := conv_at (P := Try.prog) (w := wx) 25 9 5 Try.underlying25 Try.underlying5 Try.underlying9 (hraw.out.grown hx (fun _ _ _ => by simp)) Hl.out (fun e => (Hnil.out e).1) (cap := cap0); go_simp; (try with_reducible rfl))
            try simp only [Act.put, List.setIfInBounds_toArray, List.set_cons_zero, List.set_cons_succ]
            refine wpAnyH_ready (rs := [14]) (by kernel_rfl) (by simp) ?_
            refine AllReadyH.cons (o := { dst := some 88, op := Op.call { callee := Callee.value (Operand.func 14), args := #[Operand.tmp 87], argTypes := #[24] }, type := 4, pos := "ref.go:106", after := #[{ on := 13, ground := Ground.data }, { on := 12, ground := Ground.chain }, { on := 12, ground := Ground.guard }], guard := some (12, false) }) rfl (fun K hK => ?_) AllReadyH.nil
            go_simp
            refine (HM.out _).mono ?_
            rintro e w5 ⟨rfl, hg⟩
            have hS1 := grown_trans hS hg
            clear hg
            refine hK.out _ _ ?hsqd12r27o14n15 (fun hS => ?_)
            case hsqd12r27o14n15 => (exact hS1)
            clear hK K
            try simp only [Act.put, List.setIfInBounds_toArray, List.set_cons_zero, List.set_cons_succ]
            refine wpAnyH_take (i := 15) (oi := { dst := some 89, op := Op.unOp UnOp.not 4 (Operand.tmp 88), type := 4, pos := "ref.go:106", after := #[{ on := 14, ground := Ground.data }, { on := 12, ground := Ground.guard }], guard := some (12, false) }) (v := ?vqd12r27o15n16) rfl (by kernel_rfl) (by kernel_rfl) (by kernel_rfl) (fun _ _ _ h => h) (Or.inl ⟨by rfl, ?hqd12r27o15n16⟩) hS ?_
            case hqd12r27o15n16 => (intro wx hx; skip; go_simp; (try with_reducible rfl))
            try simp only [Act.put, List.setIfInBounds_toArray, List.set_cons_zero, List.set_cons_succ]
            refine wpAnyH_take (i := 16) (oi := { dst := some 90, op := Op.pick (Operand.tmp 86) (Operand.const (Value.bool true)) (Operand.tmp 89), type := 4, pos := "ref.go:106", after := #[{ on := 12, ground := Ground.data }, { on := 15, ground := Ground.data }], guard := none }) (v := ?vqd12r27o16n17) rfl (by kernel_rfl) (by kernel_rfl) (by kernel_rfl) (fun _ _ _ h => h) (Or.inl ⟨by rfl, ?hqd12r27o16n17⟩) hS ?_
            case hqd12r27o16n17 => (intro wx hx; skip; go_simp; (try with_reducible rfl))
            try simp only [Act.put, List.setIfInBounds_toArray, List.set_cons_zero, List.set_cons_succ]
            refine wpAnyH_take (i := 17) (oi := { dst := some 91, op := Op.move (Operand.tmp 90), type := 4, pos := "ref.go:106", after := #[{ on := 16, ground := Ground.data }, { on := 14, ground := Ground.chain }], guard := none }) (v := ?vqd12r27o17n18) rfl (by kernel_rfl) (by kernel_rfl) (by kernel_rfl) (fun _ _ _ h => h) (Or.inl ⟨by rfl, ?hqd12r27o17n18⟩) hS ?_
            case hqd12r27o17n18 => (intro wx hx; skip; go_simp; (try with_reducible rfl))
            try simp only [Act.put, List.setIfInBounds_toArray, List.set_cons_zero, List.set_cons_succ]
            refine wpAnyH_take (i := 18) (oi := { dst := some 92, op := Op.load 24 (Operand.tmp 5), type := 24, pos := "ref.go:106", after := #[{ on := 17, ground := Ground.guard }], guard := some (17, false) }) (v := ?vqd12r27o18n19) rfl (by kernel_rfl) (by kernel_rfl) (by kernel_rfl) (fun _ _ _ h => h) (Or.inl ⟨by rfl, ?hqd12r27o18n19⟩) hS ?_
            case hqd12r27o18n19 => (intro wx hx; have yt0 := hx.cell ct0 (by simp); have yt1 := hx.cell ct1 (by simp); have y0 := hx.cell c0 (by simp); have y1 := hx.cell c1 (by simp); have y2 := hx.cell c2 (by simp); have y3 := hx.cell c3 (by simp); have y4 := hx.cell c4 (by simp); have y5 := hx.cell c5 (by simp); have y6 := hx.cell c6 (by simp); have y7 := hx.cell c7 (by simp); have hcv1 := conv_at (P := Try.prog) (w := wx) 25 9 5 Try.underlying25 Try.underlying5 Try.underlying9 (hraw.out.grown hx (fun _ _ _ => by simp)) Hl.out (fun e => (Hnil.out e).1) (cap := cap0); go_simp; (try with_reducible rfl))
            try simp only [Act.put, List.setIfInBounds_toArray, List.set_cons_zero, List.set_cons_succ]
            refine wpAnyH_take (i := 21) (oi := { dst := some 95, op := Op.move (Operand.tmp 0), type := 25, pos := "ref.go:106", after := #[{ on := 17, ground := Ground.guard }], guard := some (17, false) }) (v := ?vqd12r27o21n20) rfl (by kernel_rfl) (by kernel_rfl) (by kernel_rfl) (fun _ _ _ h => h) (Or.inl ⟨by rfl, ?hqd12r27o21n20⟩) hS ?_
            case hqd12r27o21n20 => (intro wx hx; skip; go_simp; (try with_reducible rfl))
            try simp only [Act.put, List.setIfInBounds_toArray, List.set_cons_zero, List.set_cons_succ]
            refine wpAnyH_take (i := 22) (oi := { dst := some 96, op := Op.convert 25 9 (Operand.tmp 95), type := 9, pos := "ref.go:106", after := #[{ on := 21, ground := Ground.data }, { on := 17, ground := Ground.guard }], guard := some (17, false) }) (v := ?vqd12r27o22n21) rfl (by kernel_rfl) (by kernel_rfl) (by kernel_rfl) (fun _ _ _ h => h) (Or.inl ⟨by rfl, ?hqd12r27o22n21⟩) hS ?_
            case hqd12r27o22n21 => (intro wx hx; have yt0 := hx.cell ct0 (by simp); have yt1 := hx.cell ct1 (by simp); have y0 := hx.cell c0 (by simp); have y1 := hx.cell c1 (by simp); have y2 := hx.cell c2 (by simp); have y3 := hx.cell c3 (by simp); have y4 := hx.cell c4 (by simp); have y5 := hx.cell c5 (by simp); have y6 := hx.cell c6 (by simp); have y7 := hx.cell c7 (by simp); have hcv1 := conv_at (P := Try.prog) (w := wx) 25 9 5 Try.underlying25 Try.underlying5 Try.underlying9 (hraw.out.grown hx (fun _ _ _ => by simp)) Hl.out (fun e => (Hnil.out e).1) (cap := cap0); go_simp; (try with_reducible rfl))
            try simp only [Act.put, List.setIfInBounds_toArray, List.set_cons_zero, List.set_cons_succ]
            refine wpAnyH_ready (rs := [19]) (by kernel_rfl) (by simp) ?_
            refine AllReadyH.cons (o := { dst := some 93, op := Op.call { callee := Callee.value (Operand.func 16), args := #[Operand.tmp 92], argTypes := #[24] }, type := 25, pos := "ref.go:106", after := #[{ on := 18, ground := Ground.data }, { on := 17, ground := Ground.chain }, { on := 17, ground := Ground.guard }], guard := some (17, false) }) rfl (fun K hK => ?_) AllReadyH.nil
            go_simp
            refine (HP.out _).mono ?_
            rintro e w6 ⟨ad2, cap2, rfl, a1, a2, ⟨a4, a3⟩, hg⟩
            have hS1 := grown_trans hS hg
            have hcv2 := conv_at (P := Try.prog) (w := w6) 25 9 5 Try.underlying25 Try.underlying5 Try.underlying9 a1 rfl (fun e => (a2 e).1) (cap := cap2)
            clear a1 a2 a3 a4 hg
            refine hK.out _ _ ?hsqd12r27o19n22 (fun hS => ?_)
            case hsqd12r27o19n22 => (exact hS1)
            clear hK K
            try simp only [Act.put, List.setIfInBounds_toArray, List.set_cons_zero, List.set_cons_succ]
            refine wpAnyH_ready (rs := [20]) (by kernel_rfl) (by simp) ?_
            refine AllReadyH.cons (o := { dst := some 94, op := Op.convert 25 9 (Operand.tmp 93), type := 9, pos := "ref.go:106", after := #[{ on := 19, ground := Ground.data }, { on := 17, ground := Ground.guard }], guard := some (17, false) }) rfl (fun K hK => ?_) AllReadyH.nil
            go_simp
            skip
            refine hK.out _ _ ?hsqd12r27o20n23 (fun hS => ?_)
            case hsqd12r27o20n23 => (exact hS)
            clear hK K
            try simp only [Act.put, List.setIfInBounds_toArray, List.set_cons_zero, List.set_cons_succ]
            refine wpAnyH_take (i := 23) (oi := { dst := some 97, op := Op.binOp BinOp.neq 9 (Operand.tmp 94) (Operand.tmp 96) 9, type := 4, pos := "ref.go:106", after := #[{ on := 20, ground := Ground.data }, { on := 22, ground := Ground.data }, { on := 17, ground := Ground.guard }], guard := some (17, false) }) (v := ?vqd12r27o23n24) rfl (by kernel_rfl) (by kernel_rfl) (by kernel_rfl) (fun _ _ _ h => h) (Or.inl ⟨by rfl, ?hqd12r27o23n24⟩) hS ?_
            case hqd12r27o23n24 => (intro wx hx; skip; go_simp; (try with_reducible rfl))
            try simp only [Act.put, List.setIfInBounds_toArray, List.set_cons_zero, List.set_cons_succ]
            refine wpAnyH_take (i := 24) (oi := { dst := some 98, op := Op.pick (Operand.tmp 91) (Operand.const (Value.bool true)) (Operand.tmp 97), type := 4, pos := "ref.go:106", after := #[{ on := 17, ground := Ground.data }, { on := 23, ground := Ground.data }], guard := none }) (v := ?vqd12r27o24n25) rfl (by kernel_rfl) (by kernel_rfl) (by kernel_rfl) (fun _ _ _ h => h) (Or.inl ⟨by rfl, ?hqd12r27o24n25⟩) hS ?_
            case hqd12r27o24n25 => (intro wx hx; skip; go_simp; (try with_reducible rfl))
            try simp only [Act.put, List.setIfInBounds_toArray, List.set_cons_zero, List.set_cons_succ]
            refine wpAnyH_done (by kernel_rfl) ?_ _
            rw [Hd3.out]
            replace hO := Lib.hid (hO.out.quiet hS)
            clear ct0 ct1 c0 c1 c2 c3 c4 c5 c6 c7 hraw hS
            go_upto_region 29 with fail
            obtain ⟨z0, z0z⟩ := own_cellB hO.out 0 rfl 0 (u := .int .u8 0) rfl
            obtain ⟨z1, z1z⟩ := own_cellB hO.out 0 rfl 1 (u := .int .u8 0) rfl
            obtain ⟨z2, z2z⟩ := own_cellB hO.out 0 rfl 2 (u := .int .u64 0) rfl
            obtain ⟨z3, z3z⟩ := own_cellB hO.out 0 rfl 3 (u := .int .u64 0) rfl
            obtain ⟨z4, z4z⟩ := own_cellB hO.out 0 rfl 4 (u := .int .u64 0) rfl
            obtain ⟨z5, z5z⟩ := own_cellB hO.out 0 rfl 5 (u := .string ⟨#[]⟩) rfl
            obtain ⟨z6, z6z⟩ := own_cellB hO.out 0 rfl 6 (u := .string ⟨#[]⟩) rfl
            obtain ⟨z7, z7z⟩ := own_cellB hO.out 0 rfl 7 (u := .string ⟨#[]⟩) rfl
            have y0 := (own_cellB hO.out 2 rfl 0 (u := .int .u8 (x.k : Int)) rfl).1
            have y1 := (own_cellB hO.out 2 rfl 1 (u := .int .u8 (x.fl : Int)) rfl).1
            have y2 := (own_cellB hO.out 2 rfl 2 (u := .int .u64 (x.fd : Int)) rfl).1
            have y3 := (own_cellB hO.out 2 rfl 3 (u := .int .u64 (x.at_ : Int)) rfl).1
            have y4 := (own_cellB hO.out 2 rfl 4 (u := .int .u64 (x.sz : Int)) rfl).1
            have y5 := (own_cellB hO.out 2 rfl 5 (u := .string x.p) rfl).1
            have y6 := (own_cellB hO.out 2 rfl 6 (u := .string x.t) rfl).1
            have y7 := (own_cellB hO.out 2 rfl 7 (u := .string x.d) rfl).1
            have hF : Hid (Grommet.Own w ((((((((w6.setCell ⟨Z, 0, none⟩ (.int .u8 (x.k : Int))).setCell ⟨Z, 1, none⟩ (.int .u8 (x.fl : Int))).setCell ⟨Z, 2, none⟩ (.int .u64 (x.fd : Int))).setCell ⟨Z, 3, none⟩ (.int .u64 (x.at_ : Int))).setCell ⟨Z, 4, none⟩ (.int .u64 (x.sz : Int))).setCell ⟨Z, 5, none⟩ (.string x.p)).setCell ⟨Z, 6, none⟩ (.string x.t)).setCell ⟨Z, 7, none⟩ (.string x.d)) [boxP Z 24 x.cs, rtP w X (bs.drop a) false, boxP R 24 x.cs]) := Lib.hid (own_fill hO.out 0 rfl (cs := #[.int .u8 0, .int .u8 0, .int .u64 0, .int .u64 0, .int .u64 0, .string ⟨#[]⟩, .string ⟨#[]⟩, .string ⟨#[]⟩]) rfl x)
            obtain ⟨W3, hW3⟩ : ∃ W3, ((((((((w6.setCell ⟨Z, 0, none⟩ (.int .u8 (x.k : Int))).setCell ⟨Z, 1, none⟩ (.int .u8 (x.fl : Int))).setCell ⟨Z, 2, none⟩ (.int .u64 (x.fd : Int))).setCell ⟨Z, 3, none⟩ (.int .u64 (x.at_ : Int))).setCell ⟨Z, 4, none⟩ (.int .u64 (x.sz : Int))).setCell ⟨Z, 5, none⟩ (.string x.p)).setCell ⟨Z, 6, none⟩ (.string x.t)).setCell ⟨Z, 7, none⟩ (.string x.d)) = W3 := ⟨_, rfl⟩
            rw [hW3] at hF
            clear hO
            go_wp2
            try rw [hW3]
            clear hW3 z0 z0z z1 z1z z2 z2z z3 z3z z4 z4z z5 z5z z6 z6z z7 z7z y0 y1 y2 y3 y4 y5 y6 y7
            have x0 := (own_cellB hF.out 0 rfl 0 (u := .int .u8 (x.k : Int)) rfl).1
            have x1 := (own_cellB hF.out 0 rfl 1 (u := .int .u8 (x.fl : Int)) rfl).1
            have x2 := (own_cellB hF.out 0 rfl 2 (u := .int .u64 (x.fd : Int)) rfl).1
            have x3 := (own_cellB hF.out 0 rfl 3 (u := .int .u64 (x.at_ : Int)) rfl).1
            have x4 := (own_cellB hF.out 0 rfl 4 (u := .int .u64 (x.sz : Int)) rfl).1
            have x5 := (own_cellB hF.out 0 rfl 5 (u := .string x.p) rfl).1
            have x6 := (own_cellB hF.out 0 rfl 6 (u := .string x.t) rfl).1
            have x7 := (own_cellB hF.out 0 rfl 7 (u := .string x.d) rfl).1
            exact bodyPost_ret (v := .tuple #[.agg #[.int .u8 (x.k : Int), .int .u8 (x.fl : Int), .int .u64 (x.fd : Int), .int .u64 (x.at_ : Int), .int .u64 (x.sz : Int), .string x.p, .string x.t, .string x.d], .int .i64 0]) (by simp [results, Try.results12, go_sem, x0, x1, x2, x3, x4, x5, x6, x7]) rfl ⟨by rw [HN.out.1, HN.out.2]; rfl, hF.out.grown⟩
          · have HN := Lib.hid (HF.out.no (.inr (.inr (.inr (fun e => hpb (hP.symm.trans e))))))
            have hd : (!decide (str P = str bs)) = true := by
              have : ¬ str P = str bs := fun e => hpb (str_inj e)
              simp [this]
            rw [hd] at hne
            have Hd3 : Hid ((!(str P).toList == (str bs).toList) = true) := Lib.hid (by have h2 : ¬ (str P).toList = (str bs).toList := fun e => hpb (str_inj (toList_inj.1 e)); simp [h2])
            clear hd hpb hP
            go_upto_region 27 with fail
            refine wp_region_held_drew (S := fun wx => World.grownBy wc wx none) (by kernel_rfl) (grown_drew (World.grownBy.refl _ none)) (fun hS => ?_)
            generalize World.drew _ = wD at hS ⊢
            refine wpAnyH_take (i := 0) (oi := { dst := some 74, op := Op.move (Operand.tmp 4), type := 55, pos := "ref.go:106", after := #[], guard := none }) (v := ?vqe12r27o0n1) rfl (by kernel_rfl) (by kernel_rfl) (by kernel_rfl) (fun _ _ _ h => h) (Or.inl ⟨by rfl, ?hqe12r27o0n1⟩) hS ?_
            case hqe12r27o0n1 => (intro wx hx; skip; go_simp; (try with_reducible rfl))
            try simp only [Act.put, List.setIfInBounds_toArray, List.set_cons_zero, List.set_cons_succ]
            refine wpAnyH_take (i := 1) (oi := { dst := some 75, op := Op.nilCheck (Operand.tmp 74), type := 0, pos := "ref.go:106", after := #[{ on := 0, ground := Ground.data }], guard := none }) (v := ?vqe12r27o1n2) rfl (by kernel_rfl) (by kernel_rfl) (by kernel_rfl) (fun _ _ _ h => h) (Or.inl ⟨by rfl, ?hqe12r27o1n2⟩) hS ?_
            case hqe12r27o1n2 => (intro wx hx; skip; go_simp; (try with_reducible rfl))
            try simp only [Act.put, List.setIfInBounds_toArray, List.set_cons_zero, List.set_cons_succ]
            refine wpAnyH_take (i := 2) (oi := { dst := some 76, op := Op.fieldAddr 57 (Operand.tmp 75) 1, type := 0, pos := "ref.go:106", after := #[{ on := 1, ground := Ground.data }], guard := none }) (v := ?vqe12r27o2n3) rfl (by kernel_rfl) (by kernel_rfl) (by kernel_rfl) (fun _ _ _ h => h) (Or.inl ⟨by rfl, ?hqe12r27o2n3⟩) hS ?_
            case hqe12r27o2n3 => (intro wx hx; skip; go_simp; (try with_reducible rfl))
            try simp only [Act.put, List.setIfInBounds_toArray, List.set_cons_zero, List.set_cons_succ]
            refine wpAnyH_take (i := 3) (oi := { dst := some 77, op := Op.load 4 (Operand.tmp 76), type := 4, pos := "ref.go:106", after := #[{ on := 2, ground := Ground.data }], guard := none }) (v := ?vqe12r27o3n4) rfl (by kernel_rfl) (by kernel_rfl) (by kernel_rfl) (fun _ _ _ h => h) (Or.inl ⟨by rfl, ?hqe12r27o3n4⟩) hS ?_
            case hqe12r27o3n4 => (intro wx hx; have yt0 := hx.cell ct0 (by simp); have yt1 := hx.cell ct1 (by simp); have y0 := hx.cell c0 (by simp); have y1 := hx.cell c1 (by simp); have y2 := hx.cell c2 (by simp); have y3 := hx.cell c3 (by simp); have y4 := hx.cell c4 (by simp); have y5 := hx.cell c5 (by simp); have y6 := hx.cell c6 (by simp); have y7 := hx.cell c7 (by simp); have hcv1 := conv_at (P := Try.prog) (w := wx) 25 9 5 Try.underlying25 Try.underlying5 Try.underlying9 (hraw.out.grown hx (fun _ _ _ => by simp)) Hl.out (fun e => (Hnil.out e).1) (cap := cap0); go_simp; (try with_reducible rfl))
            try simp only [Act.put, List.setIfInBounds_toArray, List.set_cons_zero, List.set_cons_succ]
            refine wpAnyH_take (i := 4) (oi := { dst := some 78, op := Op.move (Operand.tmp 77), type := 4, pos := "ref.go:106", after := #[{ on := 3, ground := Ground.data }], guard := none }) (v := ?vqe12r27o4n5) rfl (by kernel_rfl) (by kernel_rfl) (by kernel_rfl) (fun _ _ _ h => h) (Or.inl ⟨by rfl, ?hqe12r27o4n5⟩) hS ?_
            case hqe12r27o4n5 => (intro wx hx; skip; go_simp; (try with_reducible rfl))
            try simp only [Act.put, List.setIfInBounds_toArray, List.set_cons_zero, List.set_cons_succ]
            refine wpAnyH_take (i := 5) (oi := { dst := some 79, op := Op.move (Operand.tmp 4), type := 55, pos := "ref.go:106", after := #[{ on := 4, ground := Ground.guard }], guard := some (4, false) }) (v := ?vqe12r27o5n6) rfl (by kernel_rfl) (by kernel_rfl) (by kernel_rfl) (fun _ _ _ h => h) (Or.inl ⟨by rfl, ?hqe12r27o5n6⟩) hS ?_
            case hqe12r27o5n6 => (intro wx hx; skip; go_simp; (try with_reducible rfl))
            try simp only [Act.put, List.setIfInBounds_toArray, List.set_cons_zero, List.set_cons_succ]
            refine wpAnyH_take (i := 6) (oi := { dst := some 80, op := Op.nilCheck (Operand.tmp 79), type := 0, pos := "ref.go:106", after := #[{ on := 5, ground := Ground.data }, { on := 4, ground := Ground.guard }], guard := some (4, false) }) (v := ?vqe12r27o6n7) rfl (by kernel_rfl) (by kernel_rfl) (by kernel_rfl) (fun _ _ _ h => h) (Or.inl ⟨by rfl, ?hqe12r27o6n7⟩) hS ?_
            case hqe12r27o6n7 => (intro wx hx; skip; go_simp; (try with_reducible rfl))
            try simp only [Act.put, List.setIfInBounds_toArray, List.set_cons_zero, List.set_cons_succ]
            refine wpAnyH_take (i := 7) (oi := { dst := some 81, op := Op.fieldAddr 57 (Operand.tmp 80) 0, type := 0, pos := "ref.go:106", after := #[{ on := 6, ground := Ground.data }, { on := 4, ground := Ground.guard }], guard := some (4, false) }) (v := ?vqe12r27o7n8) rfl (by kernel_rfl) (by kernel_rfl) (by kernel_rfl) (fun _ _ _ h => h) (Or.inl ⟨by rfl, ?hqe12r27o7n8⟩) hS ?_
            case hqe12r27o7n8 => (intro wx hx; skip; go_simp; (try with_reducible rfl))
            try simp only [Act.put, List.setIfInBounds_toArray, List.set_cons_zero, List.set_cons_succ]
            refine wpAnyH_take (i := 8) (oi := { dst := some 82, op := Op.load 25 (Operand.tmp 81), type := 25, pos := "ref.go:106", after := #[{ on := 7, ground := Ground.data }, { on := 4, ground := Ground.guard }], guard := some (4, false) }) (v := ?vqe12r27o8n9) rfl (by kernel_rfl) (by kernel_rfl) (by kernel_rfl) (fun _ _ _ h => h) (Or.inl ⟨by rfl, ?hqe12r27o8n9⟩) hS ?_
            case hqe12r27o8n9 => (intro wx hx; have yt0 := hx.cell ct0 (by simp); have yt1 := hx.cell ct1 (by simp); have y0 := hx.cell c0 (by simp); have y1 := hx.cell c1 (by simp); have y2 := hx.cell c2 (by simp); have y3 := hx.cell c3 (by simp); have y4 := hx.cell c4 (by simp); have y5 := hx.cell c5 (by simp); have y6 := hx.cell c6 (by simp); have y7 := hx.cell c7 (by simp); have hcv1 := conv_at (P := Try.prog) (w := wx) 25 9 5 Try.underlying25 Try.underlying5 Try.underlying9 (hraw.out.grown hx (fun _ _ _ => by simp)) Hl.out (fun e => (Hnil.out e).1) (cap := cap0); go_simp; (try with_reducible rfl))
            try simp only [Act.put, List.setIfInBounds_toArray, List.set_cons_zero, List.set_cons_succ]
            refine wpAnyH_take (i := 9) (oi := { dst := some 83, op := Op.call { callee := Callee.builtin Builtin.len, args := #[Operand.tmp 82], argTypes := #[25] }, type := 3, pos := "ref.go:106", after := #[{ on := 8, ground := Ground.data }, { on := 4, ground := Ground.guard }], guard := some (4, false) }) (v := ?vqe12r27o9n10) rfl (by kernel_rfl) (by kernel_rfl) (by kernel_rfl) (fun _ _ _ h => h) (Or.inl ⟨by rfl, ?hqe12r27o9n10⟩) hS ?_
            case hqe12r27o9n10 => (intro wx hx; skip; go_simp; (try with_reducible rfl))
            try simp only [Act.put, List.setIfInBounds_toArray, List.set_cons_zero, List.set_cons_succ]
            refine wpAnyH_take (i := 10) (oi := { dst := some 84, op := Op.binOp BinOp.gtr 3 (Operand.tmp 83) (Operand.const (Value.int IntKind.i64 0)) 3, type := 4, pos := "ref.go:106", after := #[{ on := 9, ground := Ground.data }, { on := 4, ground := Ground.guard }], guard := some (4, false) }) (v := ?vqe12r27o10n11) rfl (by kernel_rfl) (by kernel_rfl) (by kernel_rfl) (fun _ _ _ h => h) (Or.inl ⟨by rfl, ?hqe12r27o10n11⟩) hS ?_
            case hqe12r27o10n11 => (intro wx hx; skip; go_simp; (try with_reducible rfl))
            try simp only [Act.put, List.setIfInBounds_toArray, List.set_cons_zero, List.set_cons_succ]
            refine wpAnyH_take (i := 11) (oi := { dst := some 85, op := Op.pick (Operand.tmp 78) (Operand.const (Value.bool true)) (Operand.tmp 84), type := 4, pos := "ref.go:106", after := #[{ on := 4, ground := Ground.data }, { on := 10, ground := Ground.data }], guard := none }) (v := ?vqe12r27o11n12) rfl (by kernel_rfl) (by kernel_rfl) (by kernel_rfl) (fun _ _ _ h => h) (Or.inl ⟨by rfl, ?hqe12r27o11n12⟩) hS ?_
            case hqe12r27o11n12 => (intro wx hx; skip; go_simp; (try with_reducible rfl))
            try simp only [Act.put, List.setIfInBounds_toArray, List.set_cons_zero, List.set_cons_succ]
            refine wpAnyH_take (i := 12) (oi := { dst := some 86, op := Op.move (Operand.tmp 85), type := 4, pos := "ref.go:106", after := #[{ on := 11, ground := Ground.data }, { on := 4, ground := Ground.chain }], guard := none }) (v := ?vqe12r27o12n13) rfl (by kernel_rfl) (by kernel_rfl) (by kernel_rfl) (fun _ _ _ h => h) (Or.inl ⟨by rfl, ?hqe12r27o12n13⟩) hS ?_
            case hqe12r27o12n13 => (intro wx hx; skip; go_simp; (try with_reducible rfl))
            try simp only [Act.put, List.setIfInBounds_toArray, List.set_cons_zero, List.set_cons_succ]
            refine wpAnyH_take (i := 13) (oi := { dst := some 87, op := Op.load 24 (Operand.tmp 5), type := 24, pos := "ref.go:106", after := #[{ on := 12, ground := Ground.guard }], guard := some (12, false) }) (v := ?vqe12r27o13n14) rfl (by kernel_rfl) (by kernel_rfl) (by kernel_rfl) (fun _ _ _ h => h) (Or.inl ⟨by rfl, ?hqe12r27o13n14⟩) hS ?_
            case hqe12r27o13n14 => (intro wx hx; have yt0 := hx.cell ct0 (by simp); have yt1 := hx.cell ct1 (by simp); have y0 := hx.cell c0 (by simp); have y1 := hx.cell c1 (by simp); have y2 := hx.cell c2 (by simp); have y3 := hx.cell c3 (by simp); have y4 := hx.cell c4 (by simp); have y5 := hx.cell c5 (by simp); have y6 := hx.cell c6 (by simp); have y7 := hx.cell c7 (by simp); have hcv1 := conv_at (P := Try.prog) (w := wx) 25 9 5 Try.underlying25 Try.underlying5 Try.underlying9 (hraw.out.grown hx (fun _ _ _ => by simp)) Hl.out (fun e => (Hnil.out e).1) (cap := cap0); go_simp; (try with_reducible rfl))
            try simp only [Act.put, List.setIfInBounds_toArray, List.set_cons_zero, List.set_cons_succ]
            refine wpAnyH_ready (rs := [14]) (by kernel_rfl) (by simp) ?_
            refine AllReadyH.cons (o := { dst := some 88, op := Op.call { callee := Callee.value (Operand.func 14), args := #[Operand.tmp 87], argTypes := #[24] }, type := 4, pos := "ref.go:106", after := #[{ on := 13, ground := Ground.data }, { on := 12, ground := Ground.chain }, { on := 12, ground := Ground.guard }], guard := some (12, false) }) rfl (fun K hK => ?_) AllReadyH.nil
            go_simp
            refine (HM.out _).mono ?_
            rintro e w5 ⟨rfl, hg⟩
            have hS1 := grown_trans hS hg
            clear hg
            refine hK.out _ _ ?hsqe12r27o14n15 (fun hS => ?_)
            case hsqe12r27o14n15 => (exact hS1)
            clear hK K
            try simp only [Act.put, List.setIfInBounds_toArray, List.set_cons_zero, List.set_cons_succ]
            refine wpAnyH_take (i := 15) (oi := { dst := some 89, op := Op.unOp UnOp.not 4 (Operand.tmp 88), type := 4, pos := "ref.go:106", after := #[{ on := 14, ground := Ground.data }, { on := 12, ground := Ground.guard }], guard := some (12, false) }) (v := ?vqe12r27o15n16) rfl (by kernel_rfl) (by kernel_rfl) (by kernel_rfl) (fun _ _ _ h => h) (Or.inl ⟨by rfl, ?hqe12r27o15n16⟩) hS ?_
            case hqe12r27o15n16 => (intro wx hx; skip; go_simp; (try with_reducible rfl))
            try simp only [Act.put, List.setIfInBounds_toArray, List.set_cons_zero, List.set_cons_succ]
            refine wpAnyH_take (i := 16) (oi := { dst := some 90, op := Op.pick (Operand.tmp 86) (Operand.const (Value.bool true)) (Operand.tmp 89), type := 4, pos := "ref.go:106", after := #[{ on := 12, ground := Ground.data }, { on := 15, ground := Ground.data }], guard := none }) (v := ?vqe12r27o16n17) rfl (by kernel_rfl) (by kernel_rfl) (by kernel_rfl) (fun _ _ _ h => h) (Or.inl ⟨by rfl, ?hqe12r27o16n17⟩) hS ?_
            case hqe12r27o16n17 => (intro wx hx; skip; go_simp; (try with_reducible rfl))
            try simp only [Act.put, List.setIfInBounds_toArray, List.set_cons_zero, List.set_cons_succ]
            refine wpAnyH_take (i := 17) (oi := { dst := some 91, op := Op.move (Operand.tmp 90), type := 4, pos := "ref.go:106", after := #[{ on := 16, ground := Ground.data }, { on := 14, ground := Ground.chain }], guard := none }) (v := ?vqe12r27o17n18) rfl (by kernel_rfl) (by kernel_rfl) (by kernel_rfl) (fun _ _ _ h => h) (Or.inl ⟨by rfl, ?hqe12r27o17n18⟩) hS ?_
            case hqe12r27o17n18 => (intro wx hx; skip; go_simp; (try with_reducible rfl))
            try simp only [Act.put, List.setIfInBounds_toArray, List.set_cons_zero, List.set_cons_succ]
            refine wpAnyH_take (i := 18) (oi := { dst := some 92, op := Op.load 24 (Operand.tmp 5), type := 24, pos := "ref.go:106", after := #[{ on := 17, ground := Ground.guard }], guard := some (17, false) }) (v := ?vqe12r27o18n19) rfl (by kernel_rfl) (by kernel_rfl) (by kernel_rfl) (fun _ _ _ h => h) (Or.inl ⟨by rfl, ?hqe12r27o18n19⟩) hS ?_
            case hqe12r27o18n19 => (intro wx hx; have yt0 := hx.cell ct0 (by simp); have yt1 := hx.cell ct1 (by simp); have y0 := hx.cell c0 (by simp); have y1 := hx.cell c1 (by simp); have y2 := hx.cell c2 (by simp); have y3 := hx.cell c3 (by simp); have y4 := hx.cell c4 (by simp); have y5 := hx.cell c5 (by simp); have y6 := hx.cell c6 (by simp); have y7 := hx.cell c7 (by simp); have hcv1 := conv_at (P := Try.prog) (w := wx) 25 9 5 Try.underlying25 Try.underlying5 Try.underlying9 (hraw.out.grown hx (fun _ _ _ => by simp)) Hl.out (fun e => (Hnil.out e).1) (cap := cap0); go_simp; (try with_reducible rfl))
            try simp only [Act.put, List.setIfInBounds_toArray, List.set_cons_zero, List.set_cons_succ]
            refine wpAnyH_take (i := 21) (oi := { dst := some 95, op := Op.move (Operand.tmp 0), type := 25, pos := "ref.go:106", after := #[{ on := 17, ground := Ground.guard }], guard := some (17, false) }) (v := ?vqe12r27o21n20) rfl (by kernel_rfl) (by kernel_rfl) (by kernel_rfl) (fun _ _ _ h => h) (Or.inl ⟨by rfl, ?hqe12r27o21n20⟩) hS ?_
            case hqe12r27o21n20 => (intro wx hx; skip; go_simp; (try with_reducible rfl))
            try simp only [Act.put, List.setIfInBounds_toArray, List.set_cons_zero, List.set_cons_succ]
            refine wpAnyH_take (i := 22) (oi := { dst := some 96, op := Op.convert 25 9 (Operand.tmp 95), type := 9, pos := "ref.go:106", after := #[{ on := 21, ground := Ground.data }, { on := 17, ground := Ground.guard }], guard := some (17, false) }) (v := ?vqe12r27o22n21) rfl (by kernel_rfl) (by kernel_rfl) (by kernel_rfl) (fun _ _ _ h => h) (Or.inl ⟨by rfl, ?hqe12r27o22n21⟩) hS ?_
            case hqe12r27o22n21 => (intro wx hx; have yt0 := hx.cell ct0 (by simp); have yt1 := hx.cell ct1 (by simp); have y0 := hx.cell c0 (by simp); have y1 := hx.cell c1 (by simp); have y2 := hx.cell c2 (by simp); have y3 := hx.cell c3 (by simp); have y4 := hx.cell c4 (by simp); have y5 := hx.cell c5 (by simp); have y6 := hx.cell c6 (by simp); have y7 := hx.cell c7 (by simp); have hcv1 := conv_at (P := Try.prog) (w := wx) 25 9 5 Try.underlying25 Try.underlying5 Try.underlying9 (hraw.out.grown hx (fun _ _ _ => by simp)) Hl.out (fun e => (Hnil.out e).1) (cap := cap0); go_simp; (try with_reducible rfl))
            try simp only [Act.put, List.setIfInBounds_toArray, List.set_cons_zero, List.set_cons_succ]
            refine wpAnyH_ready (rs := [19]) (by kernel_rfl) (by simp) ?_
            refine AllReadyH.cons (o := { dst := some 93, op := Op.call { callee := Callee.value (Operand.func 16), args := #[Operand.tmp 92], argTypes := #[24] }, type := 25, pos := "ref.go:106", after := #[{ on := 18, ground := Ground.data }, { on := 17, ground := Ground.chain }, { on := 17, ground := Ground.guard }], guard := some (17, false) }) rfl (fun K hK => ?_) AllReadyH.nil
            go_simp
            refine (HP.out _).mono ?_
            rintro e w6 ⟨ad2, cap2, rfl, a1, a2, ⟨a4, a3⟩, hg⟩
            have hS1 := grown_trans hS hg
            have hcv2 := conv_at (P := Try.prog) (w := w6) 25 9 5 Try.underlying25 Try.underlying5 Try.underlying9 a1 rfl (fun e => (a2 e).1) (cap := cap2)
            clear a1 a2 a3 a4 hg
            refine hK.out _ _ ?hsqe12r27o19n22 (fun hS => ?_)
            case hsqe12r27o19n22 => (exact hS1)
            clear hK K
            try simp only [Act.put, List.setIfInBounds_toArray, List.set_cons_zero, List.set_cons_succ]
            refine wpAnyH_ready (rs := [20]) (by kernel_rfl) (by simp) ?_
            refine AllReadyH.cons (o := { dst := some 94, op := Op.convert 25 9 (Operand.tmp 93), type := 9, pos := "ref.go:106", after := #[{ on := 19, ground := Ground.data }, { on := 17, ground := Ground.guard }], guard := some (17, false) }) rfl (fun K hK => ?_) AllReadyH.nil
            go_simp
            skip
            refine hK.out _ _ ?hsqe12r27o20n23 (fun hS => ?_)
            case hsqe12r27o20n23 => (exact hS)
            clear hK K
            try simp only [Act.put, List.setIfInBounds_toArray, List.set_cons_zero, List.set_cons_succ]
            refine wpAnyH_take (i := 23) (oi := { dst := some 97, op := Op.binOp BinOp.neq 9 (Operand.tmp 94) (Operand.tmp 96) 9, type := 4, pos := "ref.go:106", after := #[{ on := 20, ground := Ground.data }, { on := 22, ground := Ground.data }, { on := 17, ground := Ground.guard }], guard := some (17, false) }) (v := ?vqe12r27o23n24) rfl (by kernel_rfl) (by kernel_rfl) (by kernel_rfl) (fun _ _ _ h => h) (Or.inl ⟨by rfl, ?hqe12r27o23n24⟩) hS ?_
            case hqe12r27o23n24 => (intro wx hx; skip; go_simp; (try with_reducible rfl))
            try simp only [Act.put, List.setIfInBounds_toArray, List.set_cons_zero, List.set_cons_succ]
            refine wpAnyH_take (i := 24) (oi := { dst := some 98, op := Op.pick (Operand.tmp 91) (Operand.const (Value.bool true)) (Operand.tmp 97), type := 4, pos := "ref.go:106", after := #[{ on := 17, ground := Ground.data }, { on := 23, ground := Ground.data }], guard := none }) (v := ?vqe12r27o24n25) rfl (by kernel_rfl) (by kernel_rfl) (by kernel_rfl) (fun _ _ _ h => h) (Or.inl ⟨by rfl, ?hqe12r27o24n25⟩) hS ?_
            case hqe12r27o24n25 => (intro wx hx; skip; go_simp; (try with_reducible rfl))
            try simp only [Act.put, List.setIfInBounds_toArray, List.set_cons_zero, List.set_cons_succ]
            refine wpAnyH_done (by kernel_rfl) ?_ _
            rw [Hd3.out]
            replace hO := Lib.hid (hO.out.quiet hS)
            clear ct0 ct1 c0 c1 c2 c3 c4 c5 c6 c7 hraw hS
            go_upto_region 28 with fail
            obtain ⟨z0, z0z⟩ := own_cellB hO.out 0 rfl 0 (u := .int .u8 0) rfl
            obtain ⟨z1, z1z⟩ := own_cellB hO.out 0 rfl 1 (u := .int .u8 0) rfl
            obtain ⟨z2, z2z⟩ := own_cellB hO.out 0 rfl 2 (u := .int .u64 0) rfl
            obtain ⟨z3, z3z⟩ := own_cellB hO.out 0 rfl 3 (u := .int .u64 0) rfl
            obtain ⟨z4, z4z⟩ := own_cellB hO.out 0 rfl 4 (u := .int .u64 0) rfl
            obtain ⟨z5, z5z⟩ := own_cellB hO.out 0 rfl 5 (u := .string ⟨#[]⟩) rfl
            obtain ⟨z6, z6z⟩ := own_cellB hO.out 0 rfl 6 (u := .string ⟨#[]⟩) rfl
            obtain ⟨z7, z7z⟩ := own_cellB hO.out 0 rfl 7 (u := .string ⟨#[]⟩) rfl
            have hF : Hid (Grommet.Own w ((((((((w6.setCell ⟨Z, 0, none⟩ (.int .u8 0)).setCell ⟨Z, 1, none⟩ (.int .u8 0)).setCell ⟨Z, 2, none⟩ (.int .u64 0)).setCell ⟨Z, 3, none⟩ (.int .u64 0)).setCell ⟨Z, 4, none⟩ (.int .u64 0)).setCell ⟨Z, 5, none⟩ (.string ⟨#[]⟩)).setCell ⟨Z, 6, none⟩ (.string ⟨#[]⟩)).setCell ⟨Z, 7, none⟩ (.string ⟨#[]⟩)) [boxP Z 24 zeroRq.cs, rtP w X (bs.drop a) false, boxP R 24 x.cs]) := Lib.hid (own_fill hO.out 0 rfl (cs := #[.int .u8 0, .int .u8 0, .int .u64 0, .int .u64 0, .int .u64 0, .string ⟨#[]⟩, .string ⟨#[]⟩, .string ⟨#[]⟩]) rfl zeroRq)
            obtain ⟨W3, hW3⟩ : ∃ W3, ((((((((w6.setCell ⟨Z, 0, none⟩ (.int .u8 0)).setCell ⟨Z, 1, none⟩ (.int .u8 0)).setCell ⟨Z, 2, none⟩ (.int .u64 0)).setCell ⟨Z, 3, none⟩ (.int .u64 0)).setCell ⟨Z, 4, none⟩ (.int .u64 0)).setCell ⟨Z, 5, none⟩ (.string ⟨#[]⟩)).setCell ⟨Z, 6, none⟩ (.string ⟨#[]⟩)).setCell ⟨Z, 7, none⟩ (.string ⟨#[]⟩)) = W3 := ⟨_, rfl⟩
            rw [hW3] at hF
            clear hO
            go_wp2
            try rw [hW3]
            clear hW3 z0 z0z z1 z1z z2 z2z z3 z3z z4 z4z z5 z5z z6 z6z z7 z7z
            have x0 := (own_cellB hF.out 0 rfl 0 (u := .int .u8 0) rfl).1
            have x1 := (own_cellB hF.out 0 rfl 1 (u := .int .u8 0) rfl).1
            have x2 := (own_cellB hF.out 0 rfl 2 (u := .int .u64 0) rfl).1
            have x3 := (own_cellB hF.out 0 rfl 3 (u := .int .u64 0) rfl).1
            have x4 := (own_cellB hF.out 0 rfl 4 (u := .int .u64 0) rfl).1
            have x5 := (own_cellB hF.out 0 rfl 5 (u := .string ⟨#[]⟩) rfl).1
            have x6 := (own_cellB hF.out 0 rfl 6 (u := .string ⟨#[]⟩) rfl).1
            have x7 := (own_cellB hF.out 0 rfl 7 (u := .string ⟨#[]⟩) rfl).1
            exact bodyPost_ret (v := .tuple #[.agg #[.int .u8 0, .int .u8 0, .int .u64 0, .int .u64 0, .int .u64 0, .string ⟨#[]⟩, .string ⟨#[]⟩, .string ⟨#[]⟩], .int .i64 4]) (by simp [results, Try.results12, go_sem, x0, x1, x2, x3, x4, x5, x6, x7]) rfl ⟨by rw [HN.out.1, HN.out.2]; rfl, hF.out.grown⟩
end Go.Proofs.Ytlphmpimpeekcaa
