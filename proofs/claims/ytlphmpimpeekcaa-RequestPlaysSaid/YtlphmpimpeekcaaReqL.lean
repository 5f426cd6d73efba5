/- The law's own bytes of a request that may be. -/
import Derived.Test.YtlphmpimpeekcaaReqF
namespace Go.Proofs.Ytlphmpimpeekcaa
open Go.RowKit Go.Grommet
theorem isKind_may {r : Rq} (h : mayQ r = true) : 1 ≤ r.k ∧ r.k ≤ 13 := by
  by_cases hk : isKind r.k = true
  · unfold isKind at hk; simpa using hk
  · exfalso
    have hk : isKind r.k = false := by simpa using hk
    have e : ∀ n, (awayL r n).2 = false := by
      intro n
      unfold awayL
      rw [hk]
      have : ∀ (l : List Fd) (s : Rq), (l.foldl awayS (s, false)).2 = false := by
        intro l
        induction l with
        | nil => intro s; rfl
        | cons f l ih => intro s; exact ih _
      exact this _ _
    unfold mayQ at h
    rw [e] at h; simp at h
theorem made_quiet {w0 w w' : World} {bs : List UInt8} {e : Ending} (hg : w0.grownBy w none) (h : MadeIs w bs e w') : MadeIs w0 bs e w' := by
  obtain ⟨ad, cap, h1, h2, h3, ⟨h4, h5⟩, h6⟩ := h
  exact ⟨ad, cap, h1, h2, h3, ⟨h4, fun a e => Nat.le_trans hg.size (h5 a e)⟩, grown_trans hg h6⟩


set_option maxRecDepth 100000 in
set_option maxHeartbeats 8000000 in
theorem bytes_any (r : Rq) (hr : r.Ok) (hf : r.Few) (hm : mayQ r = true) (w : World) : Calls Try.prog 17 #[.agg r.cs] w (MadeIs w (putQ r)) := by
  have hO0 := (Own.nil w).addBox 24 r.cs
  obtain ⟨G, hG⟩ : ∃ G, w.heap.size = G := ⟨_, rfl⟩
  rw [hG] at hO0
  have Hr := Lib.hid hr
  have Hf := Lib.hid hf
  have c0 := (own_cellB hO0 0 rfl 0 (u := .int .u8 (r.k : Int)) rfl).1
  have hO0 := Lib.hid hO0
  obtain ⟨k1, k13⟩ := isKind_may hm
  have hkk : r.k = 1 ∨ r.k = 2 ∨ r.k = 3 ∨ r.k = 4 ∨ r.k = 5 ∨ r.k = 6 ∨ r.k = 7 ∨ r.k = 8 ∨ r.k = 9 ∨ r.k = 10 ∨ r.k = 11 ∨ r.k = 12 ∨ r.k = 13 := by omega
  clear k1 k13 hr hf
  go_enter Try.func17, Try.ntmps17
  go_upto_region 1 with fail
  try (change Code.wp _ _ _ _ (w.alloc (.cells r.cs 24)))
  generalize World.alloc _ _ = w1 at *
  have hat : At (w1.alloc (.cells #[.int .u8 (r.k : Int)] 5)) (some ⟨w1.heap.size, 0, none⟩) ([UInt8.ofNat r.k].map bv) := by
    have h1 := heap_alloc_new w1 (.cells #[.int .u8 (r.k : Int)] 5)
    have hk : (UInt8.ofNat r.k).toNat = r.k := by have := Hr.out.k; rw [UInt8.toNat_ofNat']; omega
    intro j u hu
    cases j with
    | succ j => simp at hu
    | zero =>
      simp [bv, hk] at hu
      subst hu
      exact ⟨_, _, rfl, by unfold World.cell?; rw [show w1.heap.size = w1.heap.size from rfl, h1]; rfl⟩
  have hO1 := hO0.out.quiet (World.grownBy_alloc w1 (.cells #[.int .u8 (r.k : Int)] 5) none)
  obtain ⟨E, hE⟩ : ∃ E, w1.heap.size = E := ⟨_, rfl⟩
  rw [hE] at hat
  go_upto_region 2 with fail
  generalize World.alloc _ _ = w2 at hO1 hat ⊢
  clear hO0 c0 hE hG
  have c0 := (own_cellB hO1 0 rfl 0 (u := .int .u8 (r.k : Int)) rfl).1
  have c1 := (own_cellB hO1 0 rfl 1 (u := .int .u8 (r.fl : Int)) rfl).1
  have c2 := (own_cellB hO1 0 rfl 2 (u := .int .u64 (r.fd : Int)) rfl).1
  have c3 := (own_cellB hO1 0 rfl 3 (u := .int .u64 (r.at_ : Int)) rfl).1
  have c4 := (own_cellB hO1 0 rfl 4 (u := .int .u64 (r.sz : Int)) rfl).1
  have c5 := (own_cellB hO1 0 rfl 5 (u := .string r.p) rfl).1
  have c6 := (own_cellB hO1 0 rfl 6 (u := .string r.t) rfl).1
  have c7 := (own_cellB hO1 0 rfl 7 (u := .string r.d) rfl).1
  have hgw := Lib.hid hO1.grown
  obtain ⟨X0, hX0⟩ : ∃ X : List UInt8, X = [UInt8.ofNat r.k] := ⟨_, rfl⟩
  rw [← hX0] at hat
  have HL0 : Hid (X0.length ≤ 200100) := Lib.hid (by rw [hX0]; simp)
  have Hl0 : Hid (X0.length = 1) := Lib.hid (by rw [hX0]; rfl)
  have HA0 := Lib.hid hat
  have H0 := Lib.hid hX0
  clear hO1 hX0 hat
  rcases hkk with hk | hk | hk | hk | hk | hk | hk | hk | hk | hk | hk | hk | hk
  · have hq : putQ r = putL r 2 := by unfold putQ; rw [if_pos hm, hk]; rfl
    have hfin : putL r 2 = UInt8.ofNat r.k :: ((num r.p.size ++ bytesOf r.p) ++ num r.fl) := by simp [putL, hk, flds, Rq.put]
    have Hq := Lib.hid (hq.trans hfin)
    clear hq hfin hm
    have q1 : ((r.k : Int) == 1) = true := by rw [hk]; rfl
    have q7 : ((r.k : Int) == 7) = false := by rw [hk]; rfl
    have q8 : ((r.k : Int) == 8) = false := by rw [hk]; rfl
    have q9 : ((r.k : Int) == 9) = false := by rw [hk]; rfl
    have q10 : ((r.k : Int) == 10) = false := by rw [hk]; rfl
    have q11 : ((r.k : Int) == 11) = false := by rw [hk]; rfl
    have q12 : ((r.k : Int) == 12) = false := by rw [hk]; rfl
    have q13 : ((r.k : Int) == 13) = false := by rw [hk]; rfl
    have q3 : ((r.k : Int) == 3) = false := by rw [hk]; rfl
    have q4 : ((r.k : Int) == 4) = false := by rw [hk]; rfl
    have q5 : ((r.k : Int) == 5) = false := by rw [hk]; rfl
    have q6 : ((r.k : Int) == 6) = false := by rw [hk]; rfl
    obtain ⟨k, hkk⟩ : ∃ k, r.k = k := ⟨_, rfl⟩
    rw [hkk] at q1 q7 q8 q9 q10 q11 q12 q13 q3 q4 q5 q6 c0
    clear hk
    have HN0 := Lib.hid (fun wx ad cap (a1 : At wx ad ((X0 : List UInt8).map bv)) a2 (a3 : 1 ≤ 200100) => Text_any ad 1 cap X0 r.p wx Hl0.out a1 a2 (by have := Hf.out.p; omega))
    obtain ⟨X1, hX1⟩ : ∃ X, X0 ++ num r.p.size ++ bytesOf r.p = X := ⟨_, rfl⟩
    rw [hX1] at HN0
    have HN1 := Lib.hid (fun wx ad cap (a1 : At wx ad ((X1 : List UInt8).map bv)) a2 (a3 : (X1 : List UInt8).length ≤ 200100) => Number_any ad (X1 : List UInt8).length cap X1 r.fl wx (by have := Hr.out.fl; omega) rfl a1 a2 (by omega))
    obtain ⟨X2, hX2⟩ : ∃ X, X1 ++ num r.fl = X := ⟨_, rfl⟩
    rw [hX2] at HN1
    have wf : IntKind.u64.wrap (r.fl : Int) = (r.fl : Int) := IntWalk.u64_in _ ⟨by omega, by have := Hr.out.fl; omega⟩
    have HX : Hid (X2 = putQ r) := Lib.hid (by rw [Hq.out, ← hX2, ← hX1, H0.out]; simp)
    have HL : Hid (X1.length ≤ 200100) := Lib.hid (by rw [← hX1, H0.out]; have := put_len Hr.out Hf.out .path; simp only [Rq.put, List.length_append] at this; simp only [List.length_append, List.length_cons, List.length_nil] at this ⊢; omega)
    clear hX1 hX2 hkk
    go_wp2_with fail
    refine (HN0.out _ _ _ HA0.out (fun e => by cases e) (by decide)).mono ?_
    rintro e v0 ⟨ad0, cap0, rfl, a1, a2, ⟨a4, a3⟩, hg⟩
    have HA1 := Lib.hid (And.intro a1 a2)
    replace c0 := hg.cell c0 (by simp)
    replace c1 := hg.cell c1 (by simp)
    replace c2 := hg.cell c2 (by simp)
    replace c3 := hg.cell c3 (by simp)
    replace c4 := hg.cell c4 (by simp)
    replace c5 := hg.cell c5 (by simp)
    replace c6 := hg.cell c6 (by simp)
    replace c7 := hg.cell c7 (by simp)
    replace hgw := Lib.hid (grown_trans hgw.out hg)
    clear a1 a2 a3 a4 hg HN0
    go_wp2_with fail
    refine (HN1.out _ _ _ HA1.out.1 HA1.out.2 HL.out).mono ?_
    rintro e v1 ⟨ad1, cap1, rfl, a1, a2, ⟨a4, a3⟩, hg⟩
    have Hfin : Hid (MadeIs w X2 (.returned (.slice ad1 X2.length cap1)) v1) := Lib.hid (made_quiet hgw.out ⟨ad1, cap1, rfl, a1, a2, ⟨a4, a3⟩, hg⟩)
    clear a1 a2 a3 a4 hg c0 c1 c2 c3 c4 c5 c6 c7
    go_wp2
    go_ret
    rw [← HX.out]
    exact Hfin.out
  · have hq : putQ r = putL r 1 := by unfold putQ; rw [if_pos hm, hk]; rfl
    have hfin : putL r 1 = UInt8.ofNat r.k :: (num r.fd) := by simp [putL, hk, flds, Rq.put]
    have Hq := Lib.hid (hq.trans hfin)
    clear hq hfin hm
    have q1 : ((r.k : Int) == 1) = false := by rw [hk]; rfl
    have q7 : ((r.k : Int) == 7) = false := by rw [hk]; rfl
    have q8 : ((r.k : Int) == 8) = false := by rw [hk]; rfl
    have q9 : ((r.k : Int) == 9) = false := by rw [hk]; rfl
    have q10 : ((r.k : Int) == 10) = false := by rw [hk]; rfl
    have q11 : ((r.k : Int) == 11) = false := by rw [hk]; rfl
    have q12 : ((r.k : Int) == 12) = false := by rw [hk]; rfl
    have q13 : ((r.k : Int) == 13) = false := by rw [hk]; rfl
    have q3 : ((r.k : Int) == 3) = false := by rw [hk]; rfl
    have q4 : ((r.k : Int) == 4) = false := by rw [hk]; rfl
    have q5 : ((r.k : Int) == 5) = false := by rw [hk]; rfl
    have q6 : ((r.k : Int) == 6) = false := by rw [hk]; rfl
    obtain ⟨k, hkk⟩ : ∃ k, r.k = k := ⟨_, rfl⟩
    rw [hkk] at q1 q7 q8 q9 q10 q11 q12 q13 q3 q4 q5 q6 c0
    clear hk
    have HN0 := Lib.hid (fun wx ad cap (a1 : At wx ad ((X0 : List UInt8).map bv)) a2 (a3 : 1 ≤ 200100) => Number_any ad 1 cap X0 r.fd wx (by have := Hr.out.fd; omega) Hl0.out a1 a2 (by omega))
    obtain ⟨X1, hX1⟩ : ∃ X, X0 ++ num r.fd = X := ⟨_, rfl⟩
    rw [hX1] at HN0
    have HX : Hid (X1 = putQ r) := Lib.hid (by rw [Hq.out, ← hX1, H0.out]; simp)
    clear hX1 hkk
    go_wp2_with fail
    refine (HN0.out _ _ _ HA0.out (fun e => by cases e) (by decide)).mono ?_
    rintro e v0 ⟨ad0, cap0, rfl, a1, a2, ⟨a4, a3⟩, hg⟩
    have Hfin : Hid (MadeIs w X1 (.returned (.slice ad0 X1.length cap0)) v0) := Lib.hid (made_quiet hgw.out ⟨ad0, cap0, rfl, a1, a2, ⟨a4, a3⟩, hg⟩)
    replace c0 := hg.cell c0 (by simp)
    replace c1 := hg.cell c1 (by simp)
    replace c2 := hg.cell c2 (by simp)
    replace c3 := hg.cell c3 (by simp)
    replace c4 := hg.cell c4 (by simp)
    replace c5 := hg.cell c5 (by simp)
    replace c6 := hg.cell c6 (by simp)
    replace c7 := hg.cell c7 (by simp)
    clear a1 a2 a3 a4 hg
    go_wp2
    go_ret
    rw [← HX.out]
    exact Hfin.out
  · have hq : putQ r = putL r 2 := by unfold putQ; rw [if_pos hm, hk]; rfl
    have hfin : putL r 2 = UInt8.ofNat r.k :: (num r.fd ++ num r.sz) := by simp [putL, hk, flds, Rq.put]
    have Hq := Lib.hid (hq.trans hfin)
    clear hq hfin hm
    have q1 : ((r.k : Int) == 1) = false := by rw [hk]; rfl
    have q7 : ((r.k : Int) == 7) = false := by rw [hk]; rfl
    have q8 : ((r.k : Int) == 8) = false := by rw [hk]; rfl
    have q9 : ((r.k : Int) == 9) = false := by rw [hk]; rfl
    have q10 : ((r.k : Int) == 10) = false := by rw [hk]; rfl
    have q11 : ((r.k : Int) == 11) = false := by rw [hk]; rfl
    have q12 : ((r.k : Int) == 12) = false := by rw [hk]; rfl
    have q13 : ((r.k : Int) == 13) = false := by rw [hk]; rfl
    have q3 : ((r.k : Int) == 3) = true := by rw [hk]; rfl
    have q4 : ((r.k : Int) == 4) = false := by rw [hk]; rfl
    have q5 : ((r.k : Int) == 5) = false := by rw [hk]; rfl
    have q6 : ((r.k : Int) == 6) = false := by rw [hk]; rfl
    obtain ⟨k, hkk⟩ : ∃ k, r.k = k := ⟨_, rfl⟩
    rw [hkk] at q1 q7 q8 q9 q10 q11 q12 q13 q3 q4 q5 q6 c0
    clear hk
    have HN0 := Lib.hid (fun wx ad cap (a1 : At wx ad ((X0 : List UInt8).map bv)) a2 (a3 : 1 ≤ 200100) => Number_any ad 1 cap X0 r.fd wx (by have := Hr.out.fd; omega) Hl0.out a1 a2 (by omega))
    obtain ⟨X1, hX1⟩ : ∃ X, X0 ++ num r.fd = X := ⟨_, rfl⟩
    rw [hX1] at HN0
    have HN1 := Lib.hid (fun wx ad cap (a1 : At wx ad ((X1 : List UInt8).map bv)) a2 (a3 : (X1 : List UInt8).length ≤ 200100) => Number_any ad (X1 : List UInt8).length cap X1 r.sz wx (by have := Hr.out.sz; omega) rfl a1 a2 (by omega))
    obtain ⟨X2, hX2⟩ : ∃ X, X1 ++ num r.sz = X := ⟨_, rfl⟩
    rw [hX2] at HN1
    have HX : Hid (X2 = putQ r) := Lib.hid (by rw [Hq.out, ← hX2, ← hX1, H0.out]; simp)
    have HL : Hid (X1.length ≤ 200100) := Lib.hid (by rw [← hX1, H0.out]; have := put_len Hr.out Hf.out .fd; simp only [Rq.put] at this; simp only [List.length_append, List.length_cons, List.length_nil] at this ⊢; omega)
    clear hX1 hX2 hkk
    go_wp2_with fail
    refine (HN0.out _ _ _ HA0.out (fun e => by cases e) (by decide)).mono ?_
    rintro e v0 ⟨ad0, cap0, rfl, a1, a2, ⟨a4, a3⟩, hg⟩
    have HA1 := Lib.hid (And.intro a1 a2)
    replace c0 := hg.cell c0 (by simp)
    replace c1 := hg.cell c1 (by simp)
    replace c2 := hg.cell c2 (by simp)
    replace c3 := hg.cell c3 (by simp)
    replace c4 := hg.cell c4 (by simp)
    replace c5 := hg.cell c5 (by simp)
    replace c6 := hg.cell c6 (by simp)
    replace c7 := hg.cell c7 (by simp)
    replace hgw := Lib.hid (grown_trans hgw.out hg)
    clear a1 a2 a3 a4 hg HN0
    go_wp2_with fail
    refine (HN1.out _ _ _ HA1.out.1 HA1.out.2 HL.out).mono ?_
    rintro e v1 ⟨ad1, cap1, rfl, a1, a2, ⟨a4, a3⟩, hg⟩
    have Hfin : Hid (MadeIs w X2 (.returned (.slice ad1 X2.length cap1)) v1) := Lib.hid (made_quiet hgw.out ⟨ad1, cap1, rfl, a1, a2, ⟨a4, a3⟩, hg⟩)
    clear a1 a2 a3 a4 hg c0 c1 c2 c3 c4 c5 c6 c7
    go_wp2
    go_ret
    rw [← HX.out]
    exact Hfin.out
  · have hq : putQ r = putL r 2 := by unfold putQ; rw [if_pos hm, hk]; rfl
    have hfin : putL r 2 = UInt8.ofNat r.k :: (num r.fd ++ (num r.d.size ++ bytesOf r.d)) := by simp [putL, hk, flds, Rq.put]
    have Hq := Lib.hid (hq.trans hfin)
    clear hq hfin hm
    have q1 : ((r.k : Int) == 1) = false := by rw [hk]; rfl
    have q7 : ((r.k : Int) == 7) = false := by rw [hk]; rfl
    have q8 : ((r.k : Int) == 8) = false := by rw [hk]; rfl
    have q9 : ((r.k : Int) == 9) = false := by rw [hk]; rfl
    have q10 : ((r.k : Int) == 10) = false := by rw [hk]; rfl
    have q11 : ((r.k : Int) == 11) = false := by rw [hk]; rfl
    have q12 : ((r.k : Int) == 12) = false := by rw [hk]; rfl
    have q13 : ((r.k : Int) == 13) = false := by rw [hk]; rfl
    have q3 : ((r.k : Int) == 3) = false := by rw [hk]; rfl
    have q4 : ((r.k : Int) == 4) = true := by rw [hk]; rfl
    have q5 : ((r.k : Int) == 5) = false := by rw [hk]; rfl
    have q6 : ((r.k : Int) == 6) = false := by rw [hk]; rfl
    obtain ⟨k, hkk⟩ : ∃ k, r.k = k := ⟨_, rfl⟩
    rw [hkk] at q1 q7 q8 q9 q10 q11 q12 q13 q3 q4 q5 q6 c0
    clear hk
    have HN0 := Lib.hid (fun wx ad cap (a1 : At wx ad ((X0 : List UInt8).map bv)) a2 (a3 : 1 ≤ 200100) => Number_any ad 1 cap X0 r.fd wx (by have := Hr.out.fd; omega) Hl0.out a1 a2 (by omega))
    obtain ⟨X1, hX1⟩ : ∃ X, X0 ++ num r.fd = X := ⟨_, rfl⟩
    rw [hX1] at HN0
    have HN1 := Lib.hid (fun wx ad cap (a1 : At wx ad ((X1 : List UInt8).map bv)) a2 (a3 : (X1 : List UInt8).length ≤ 200100) => Text_any ad (X1 : List UInt8).length cap X1 r.d wx rfl a1 a2 (by have := Hf.out.d; omega))
    obtain ⟨X2, hX2⟩ : ∃ X, X1 ++ num r.d.size ++ bytesOf r.d = X := ⟨_, rfl⟩
    rw [hX2] at HN1
    have HX : Hid (X2 = putQ r) := Lib.hid (by rw [Hq.out, ← hX2, ← hX1, H0.out]; simp)
    have HL : Hid (X1.length ≤ 200100) := Lib.hid (by rw [← hX1, H0.out]; have := put_len Hr.out Hf.out .fd; simp only [Rq.put] at this; simp only [List.length_append, List.length_cons, List.length_nil] at this ⊢; omega)
    clear hX1 hX2 hkk
    go_wp2_with fail
    refine (HN0.out _ _ _ HA0.out (fun e => by cases e) (by decide)).mono ?_
    rintro e v0 ⟨ad0, cap0, rfl, a1, a2, ⟨a4, a3⟩, hg⟩
    have HA1 := Lib.hid (And.intro a1 a2)
    replace c0 := hg.cell c0 (by simp)
    replace c1 := hg.cell c1 (by simp)
    replace c2 := hg.cell c2 (by simp)
    replace c3 := hg.cell c3 (by simp)
    replace c4 := hg.cell c4 (by simp)
    replace c5 := hg.cell c5 (by simp)
    replace c6 := hg.cell c6 (by simp)
    replace c7 := hg.cell c7 (by simp)
    replace hgw := Lib.hid (grown_trans hgw.out hg)
    clear a1 a2 a3 a4 hg HN0
    go_wp2_with fail
    refine (HN1.out _ _ _ HA1.out.1 HA1.out.2 HL.out).mono ?_
    rintro e v1 ⟨ad1, cap1, rfl, a1, a2, ⟨a4, a3⟩, hg⟩
    have Hfin : Hid (MadeIs w X2 (.returned (.slice ad1 X2.length cap1)) v1) := Lib.hid (made_quiet hgw.out ⟨ad1, cap1, rfl, a1, a2, ⟨a4, a3⟩, hg⟩)
    clear a1 a2 a3 a4 hg c0 c1 c2 c3 c4 c5 c6 c7
    go_wp2
    go_ret
    rw [← HX.out]
    exact Hfin.out
  · have hq : putQ r = putL r 2 := by unfold putQ; rw [if_pos hm, hk]; rfl
    have hfin : putL r 2 = UInt8.ofNat r.k :: (num r.fd ++ num r.at_) := by simp [putL, hk, flds, Rq.put]
    have Hq := Lib.hid (hq.trans hfin)
    clear hq hfin hm
    have q1 : ((r.k : Int) == 1) = false := by rw [hk]; rfl
    have q7 : ((r.k : Int) == 7) = false := by rw [hk]; rfl
    have q8 : ((r.k : Int) == 8) = false := by rw [hk]; rfl
    have q9 : ((r.k : Int) == 9) = false := by rw [hk]; rfl
    have q10 : ((r.k : Int) == 10) = false := by rw [hk]; rfl
    have q11 : ((r.k : Int) == 11) = false := by rw [hk]; rfl
    have q12 : ((r.k : Int) == 12) = false := by rw [hk]; rfl
    have q13 : ((r.k : Int) == 13) = false := by rw [hk]; rfl
    have q3 : ((r.k : Int) == 3) = false := by rw [hk]; rfl
    have q4 : ((r.k : Int) == 4) = false := by rw [hk]; rfl
    have q5 : ((r.k : Int) == 5) = true := by rw [hk]; rfl
    have q6 : ((r.k : Int) == 6) = false := by rw [hk]; rfl
    obtain ⟨k, hkk⟩ : ∃ k, r.k = k := ⟨_, rfl⟩
    rw [hkk] at q1 q7 q8 q9 q10 q11 q12 q13 q3 q4 q5 q6 c0
    clear hk
    have HN0 := Lib.hid (fun wx ad cap (a1 : At wx ad ((X0 : List UInt8).map bv)) a2 (a3 : 1 ≤ 200100) => Number_any ad 1 cap X0 r.fd wx (by have := Hr.out.fd; omega) Hl0.out a1 a2 (by omega))
    obtain ⟨X1, hX1⟩ : ∃ X, X0 ++ num r.fd = X := ⟨_, rfl⟩
    rw [hX1] at HN0
    have HN1 := Lib.hid (fun wx ad cap (a1 : At wx ad ((X1 : List UInt8).map bv)) a2 (a3 : (X1 : List UInt8).length ≤ 200100) => Number_any ad (X1 : List UInt8).length cap X1 r.at_ wx (by have := Hr.out.at_; omega) rfl a1 a2 (by omega))
    obtain ⟨X2, hX2⟩ : ∃ X, X1 ++ num r.at_ = X := ⟨_, rfl⟩
    rw [hX2] at HN1
    have HX : Hid (X2 = putQ r) := Lib.hid (by rw [Hq.out, ← hX2, ← hX1, H0.out]; simp)
    have HL : Hid (X1.length ≤ 200100) := Lib.hid (by rw [← hX1, H0.out]; have := put_len Hr.out Hf.out .fd; simp only [Rq.put] at this; simp only [List.length_append, List.length_cons, List.length_nil] at this ⊢; omega)
    clear hX1 hX2 hkk
    go_wp2_with fail
    refine (HN0.out _ _ _ HA0.out (fun e => by cases e) (by decide)).mono ?_
    rintro e v0 ⟨ad0, cap0, rfl, a1, a2, ⟨a4, a3⟩, hg⟩
    have HA1 := Lib.hid (And.intro a1 a2)
    replace c0 := hg.cell c0 (by simp)
    replace c1 := hg.cell c1 (by simp)
    replace c2 := hg.cell c2 (by simp)
    replace c3 := hg.cell c3 (by simp)
    replace c4 := hg.cell c4 (by simp)
    replace c5 := hg.cell c5 (by simp)
    replace c6 := hg.cell c6 (by simp)
    replace c7 := hg.cell c7 (by simp)
    replace hgw := Lib.hid (grown_trans hgw.out hg)
    clear a1 a2 a3 a4 hg HN0
    go_wp2_with fail
    refine (HN1.out _ _ _ HA1.out.1 HA1.out.2 HL.out).mono ?_
    rintro e v1 ⟨ad1, cap1, rfl, a1, a2, ⟨a4, a3⟩, hg⟩
    have Hfin : Hid (MadeIs w X2 (.returned (.slice ad1 X2.length cap1)) v1) := Lib.hid (made_quiet hgw.out ⟨ad1, cap1, rfl, a1, a2, ⟨a4, a3⟩, hg⟩)
    clear a1 a2 a3 a4 hg c0 c1 c2 c3 c4 c5 c6 c7
    go_wp2
    go_ret
    rw [← HX.out]
    exact Hfin.out
  · have hq : putQ r = putL r 2 := by unfold putQ; rw [if_pos hm, hk]; rfl
    have hfin : putL r 2 = UInt8.ofNat r.k :: (num r.fd ++ num r.at_) := by simp [putL, hk, flds, Rq.put]
    have Hq := Lib.hid (hq.trans hfin)
    clear hq hfin hm
    have q1 : ((r.k : Int) == 1) = false := by rw [hk]; rfl
    have q7 : ((r.k : Int) == 7) = false := by rw [hk]; rfl
    have q8 : ((r.k : Int) == 8) = false := by rw [hk]; rfl
    have q9 : ((r.k : Int) == 9) = false := by rw [hk]; rfl
    have q10 : ((r.k : Int) == 10) = false := by rw [hk]; rfl
    have q11 : ((r.k : Int) == 11) = false := by rw [hk]; rfl
    have q12 : ((r.k : Int) == 12) = false := by rw [hk]; rfl
    have q13 : ((r.k : Int) == 13) = false := by rw [hk]; rfl
    have q3 : ((r.k : Int) == 3) = false := by rw [hk]; rfl
    have q4 : ((r.k : Int) == 4) = false := by rw [hk]; rfl
    have q5 : ((r.k : Int) == 5) = false := by rw [hk]; rfl
    have q6 : ((r.k : Int) == 6) = true := by rw [hk]; rfl
    obtain ⟨k, hkk⟩ : ∃ k, r.k = k := ⟨_, rfl⟩
    rw [hkk] at q1 q7 q8 q9 q10 q11 q12 q13 q3 q4 q5 q6 c0
    clear hk
    have HN0 := Lib.hid (fun wx ad cap (a1 : At wx ad ((X0 : List UInt8).map bv)) a2 (a3 : 1 ≤ 200100) => Number_any ad 1 cap X0 r.fd wx (by have := Hr.out.fd; omega) Hl0.out a1 a2 (by omega))
    obtain ⟨X1, hX1⟩ : ∃ X, X0 ++ num r.fd = X := ⟨_, rfl⟩
    rw [hX1] at HN0
    have HN1 := Lib.hid (fun wx ad cap (a1 : At wx ad ((X1 : List UInt8).map bv)) a2 (a3 : (X1 : List UInt8).length ≤ 200100) => Number_any ad (X1 : List UInt8).length cap X1 r.at_ wx (by have := Hr.out.at_; omega) rfl a1 a2 (by omega))
    obtain ⟨X2, hX2⟩ : ∃ X, X1 ++ num r.at_ = X := ⟨_, rfl⟩
    rw [hX2] at HN1
    have HX : Hid (X2 = putQ r) := Lib.hid (by rw [Hq.out, ← hX2, ← hX1, H0.out]; simp)
    have HL : Hid (X1.length ≤ 200100) := Lib.hid (by rw [← hX1, H0.out]; have := put_len Hr.out Hf.out .fd; simp only [Rq.put] at this; simp only [List.length_append, List.length_cons, List.length_nil] at this ⊢; omega)
    clear hX1 hX2 hkk
    go_wp2_with fail
    refine (HN0.out _ _ _ HA0.out (fun e => by cases e) (by decide)).mono ?_
    rintro e v0 ⟨ad0, cap0, rfl, a1, a2, ⟨a4, a3⟩, hg⟩
    have HA1 := Lib.hid (And.intro a1 a2)
    replace c0 := hg.cell c0 (by simp)
    replace c1 := hg.cell c1 (by simp)
    replace c2 := hg.cell c2 (by simp)
    replace c3 := hg.cell c3 (by simp)
    replace c4 := hg.cell c4 (by simp)
    replace c5 := hg.cell c5 (by simp)
    replace c6 := hg.cell c6 (by simp)
    replace c7 := hg.cell c7 (by simp)
    replace hgw := Lib.hid (grown_trans hgw.out hg)
    clear a1 a2 a3 a4 hg HN0
    go_wp2_with fail
    refine (HN1.out _ _ _ HA1.out.1 HA1.out.2 HL.out).mono ?_
    rintro e v1 ⟨ad1, cap1, rfl, a1, a2, ⟨a4, a3⟩, hg⟩
    have Hfin : Hid (MadeIs w X2 (.returned (.slice ad1 X2.length cap1)) v1) := Lib.hid (made_quiet hgw.out ⟨ad1, cap1, rfl, a1, a2, ⟨a4, a3⟩, hg⟩)
    clear a1 a2 a3 a4 hg c0 c1 c2 c3 c4 c5 c6 c7
    go_wp2
    go_ret
    rw [← HX.out]
    exact Hfin.out
  · have hq : putQ r = putL r 1 := by unfold putQ; rw [if_pos hm, hk]; rfl
    have hfin : putL r 1 = UInt8.ofNat r.k :: ((num r.p.size ++ bytesOf r.p)) := by simp [putL, hk, flds, Rq.put]
    have Hq := Lib.hid (hq.trans hfin)
    clear hq hfin hm
    have q1 : ((r.k : Int) == 1) = false := by rw [hk]; rfl
    have q7 : ((r.k : Int) == 7) = true := by rw [hk]; rfl
    have q8 : ((r.k : Int) == 8) = false := by rw [hk]; rfl
    have q9 : ((r.k : Int) == 9) = false := by rw [hk]; rfl
    have q10 : ((r.k : Int) == 10) = false := by rw [hk]; rfl
    have q11 : ((r.k : Int) == 11) = false := by rw [hk]; rfl
    have q12 : ((r.k : Int) == 12) = false := by rw [hk]; rfl
    have q13 : ((r.k : Int) == 13) = false := by rw [hk]; rfl
    have q3 : ((r.k : Int) == 3) = false := by rw [hk]; rfl
    have q4 : ((r.k : Int) == 4) = false := by rw [hk]; rfl
    have q5 : ((r.k : Int) == 5) = false := by rw [hk]; rfl
    have q6 : ((r.k : Int) == 6) = false := by rw [hk]; rfl
    obtain ⟨k, hkk⟩ : ∃ k, r.k = k := ⟨_, rfl⟩
    rw [hkk] at q1 q7 q8 q9 q10 q11 q12 q13 q3 q4 q5 q6 c0
    clear hk
    have HN0 := Lib.hid (fun wx ad cap (a1 : At wx ad ((X0 : List UInt8).map bv)) a2 (a3 : 1 ≤ 200100) => Text_any ad 1 cap X0 r.p wx Hl0.out a1 a2 (by have := Hf.out.p; omega))
    obtain ⟨X1, hX1⟩ : ∃ X, X0 ++ num r.p.size ++ bytesOf r.p = X := ⟨_, rfl⟩
    rw [hX1] at HN0
    have HX : Hid (X1 = putQ r) := Lib.hid (by rw [Hq.out, ← hX1, H0.out]; simp)
    clear hX1 hkk
    go_wp2_with fail
    refine (HN0.out _ _ _ HA0.out (fun e => by cases e) (by decide)).mono ?_
    rintro e v0 ⟨ad0, cap0, rfl, a1, a2, ⟨a4, a3⟩, hg⟩
    have Hfin : Hid (MadeIs w X1 (.returned (.slice ad0 X1.length cap0)) v0) := Lib.hid (made_quiet hgw.out ⟨ad0, cap0, rfl, a1, a2, ⟨a4, a3⟩, hg⟩)
    replace c0 := hg.cell c0 (by simp)
    replace c1 := hg.cell c1 (by simp)
    replace c2 := hg.cell c2 (by simp)
    replace c3 := hg.cell c3 (by simp)
    replace c4 := hg.cell c4 (by simp)
    replace c5 := hg.cell c5 (by simp)
    replace c6 := hg.cell c6 (by simp)
    replace c7 := hg.cell c7 (by simp)
    clear a1 a2 a3 a4 hg
    go_wp2
    go_ret
    rw [← HX.out]
    exact Hfin.out
  · have hq : putQ r = putL r 1 := by unfold putQ; rw [if_pos hm, hk]; rfl
    have hfin : putL r 1 = UInt8.ofNat r.k :: ((num r.p.size ++ bytesOf r.p)) := by simp [putL, hk, flds, Rq.put]
    have Hq := Lib.hid (hq.trans hfin)
    clear hq hfin hm
    have q1 : ((r.k : Int) == 1) = false := by rw [hk]; rfl
    have q7 : ((r.k : Int) == 7) = false := by rw [hk]; rfl
    have q8 : ((r.k : Int) == 8) = true := by rw [hk]; rfl
    have q9 : ((r.k : Int) == 9) = false := by rw [hk]; rfl
    have q10 : ((r.k : Int) == 10) = false := by rw [hk]; rfl
    have q11 : ((r.k : Int) == 11) = false := by rw [hk]; rfl
    have q12 : ((r.k : Int) == 12) = false := by rw [hk]; rfl
    have q13 : ((r.k : Int) == 13) = false := by rw [hk]; rfl
    have q3 : ((r.k : Int) == 3) = false := by rw [hk]; rfl
    have q4 : ((r.k : Int) == 4) = false := by rw [hk]; rfl
    have q5 : ((r.k : Int) == 5) = false := by rw [hk]; rfl
    have q6 : ((r.k : Int) == 6) = false := by rw [hk]; rfl
    obtain ⟨k, hkk⟩ : ∃ k, r.k = k := ⟨_, rfl⟩
    rw [hkk] at q1 q7 q8 q9 q10 q11 q12 q13 q3 q4 q5 q6 c0
    clear hk
    have HN0 := Lib.hid (fun wx ad cap (a1 : At wx ad ((X0 : List UInt8).map bv)) a2 (a3 : 1 ≤ 200100) => Text_any ad 1 cap X0 r.p wx Hl0.out a1 a2 (by have := Hf.out.p; omega))
    obtain ⟨X1, hX1⟩ : ∃ X, X0 ++ num r.p.size ++ bytesOf r.p = X := ⟨_, rfl⟩
    rw [hX1] at HN0
    have HX : Hid (X1 = putQ r) := Lib.hid (by rw [Hq.out, ← hX1, H0.out]; simp)
    clear hX1 hkk
    go_wp2_with fail
    refine (HN0.out _ _ _ HA0.out (fun e => by cases e) (by decide)).mono ?_
    rintro e v0 ⟨ad0, cap0, rfl, a1, a2, ⟨a4, a3⟩, hg⟩
    have Hfin : Hid (MadeIs w X1 (.returned (.slice ad0 X1.length cap0)) v0) := Lib.hid (made_quiet hgw.out ⟨ad0, cap0, rfl, a1, a2, ⟨a4, a3⟩, hg⟩)
    replace c0 := hg.cell c0 (by simp)
    replace c1 := hg.cell c1 (by simp)
    replace c2 := hg.cell c2 (by simp)
    replace c3 := hg.cell c3 (by simp)
    replace c4 := hg.cell c4 (by simp)
    replace c5 := hg.cell c5 (by simp)
    replace c6 := hg.cell c6 (by simp)
    replace c7 := hg.cell c7 (by simp)
    clear a1 a2 a3 a4 hg
    go_wp2
    go_ret
    rw [← HX.out]
    exact Hfin.out
  · have hq : putQ r = putL r 1 := by unfold putQ; rw [if_pos hm, hk]; rfl
    have hfin : putL r 1 = UInt8.ofNat r.k :: ((num r.p.size ++ bytesOf r.p)) := by simp [putL, hk, flds, Rq.put]
    have Hq := Lib.hid (hq.trans hfin)
    clear hq hfin hm
    have q1 : ((r.k : Int) == 1) = false := by rw [hk]; rfl
    have q7 : ((r.k : Int) == 7) = false := by rw [hk]; rfl
    have q8 : ((r.k : Int) == 8) = false := by rw [hk]; rfl
    have q9 : ((r.k : Int) == 9) = true := by rw [hk]; rfl
    have q10 : ((r.k : Int) == 10) = false := by rw [hk]; rfl
    have q11 : ((r.k : Int) == 11) = false := by rw [hk]; rfl
    have q12 : ((r.k : Int) == 12) = false := by rw [hk]; rfl
    have q13 : ((r.k : Int) == 13) = false := by rw [hk]; rfl
    have q3 : ((r.k : Int) == 3) = false := by rw [hk]; rfl
    have q4 : ((r.k : Int) == 4) = false := by rw [hk]; rfl
    have q5 : ((r.k : Int) == 5) = false := by rw [hk]; rfl
    have q6 : ((r.k : Int) == 6) = false := by rw [hk]; rfl
    obtain ⟨k, hkk⟩ : ∃ k, r.k = k := ⟨_, rfl⟩
    rw [hkk] at q1 q7 q8 q9 q10 q11 q12 q13 q3 q4 q5 q6 c0
    clear hk
    have HN0 := Lib.hid (fun wx ad cap (a1 : At wx ad ((X0 : List UInt8).map bv)) a2 (a3 : 1 ≤ 200100) => Text_any ad 1 cap X0 r.p wx Hl0.out a1 a2 (by have := Hf.out.p; omega))
    obtain ⟨X1, hX1⟩ : ∃ X, X0 ++ num r.p.size ++ bytesOf r.p = X := ⟨_, rfl⟩
    rw [hX1] at HN0
    have HX : Hid (X1 = putQ r) := Lib.hid (by rw [Hq.out, ← hX1, H0.out]; simp)
    clear hX1 hkk
    go_wp2_with fail
    refine (HN0.out _ _ _ HA0.out (fun e => by cases e) (by decide)).mono ?_
    rintro e v0 ⟨ad0, cap0, rfl, a1, a2, ⟨a4, a3⟩, hg⟩
    have Hfin : Hid (MadeIs w X1 (.returned (.slice ad0 X1.length cap0)) v0) := Lib.hid (made_quiet hgw.out ⟨ad0, cap0, rfl, a1, a2, ⟨a4, a3⟩, hg⟩)
    replace c0 := hg.cell c0 (by simp)
    replace c1 := hg.cell c1 (by simp)
    replace c2 := hg.cell c2 (by simp)
    replace c3 := hg.cell c3 (by simp)
    replace c4 := hg.cell c4 (by simp)
    replace c5 := hg.cell c5 (by simp)
    replace c6 := hg.cell c6 (by simp)
    replace c7 := hg.cell c7 (by simp)
    clear a1 a2 a3 a4 hg
    go_wp2
    go_ret
    rw [← HX.out]
    exact Hfin.out
  · have hq : putQ r = putL r 2 := by unfold putQ; rw [if_pos hm, hk]; rfl
    have hfin : putL r 2 = UInt8.ofNat r.k :: ((num r.p.size ++ bytesOf r.p) ++ (num r.t.size ++ bytesOf r.t)) := by simp [putL, hk, flds, Rq.put]
    have Hq := Lib.hid (hq.trans hfin)
    clear hq hfin hm
    have q1 : ((r.k : Int) == 1) = false := by rw [hk]; rfl
    have q7 : ((r.k : Int) == 7) = false := by rw [hk]; rfl
    have q8 : ((r.k : Int) == 8) = false := by rw [hk]; rfl
    have q9 : ((r.k : Int) == 9) = false := by rw [hk]; rfl
    have q10 : ((r.k : Int) == 10) = true := by rw [hk]; rfl
    have q11 : ((r.k : Int) == 11) = false := by rw [hk]; rfl
    have q12 : ((r.k : Int) == 12) = false := by rw [hk]; rfl
    have q13 : ((r.k : Int) == 13) = false := by rw [hk]; rfl
    have q3 : ((r.k : Int) == 3) = false := by rw [hk]; rfl
    have q4 : ((r.k : Int) == 4) = false := by rw [hk]; rfl
    have q5 : ((r.k : Int) == 5) = false := by rw [hk]; rfl
    have q6 : ((r.k : Int) == 6) = false := by rw [hk]; rfl
    obtain ⟨k, hkk⟩ : ∃ k, r.k = k := ⟨_, rfl⟩
    rw [hkk] at q1 q7 q8 q9 q10 q11 q12 q13 q3 q4 q5 q6 c0
    clear hk
    have HN0 := Lib.hid (fun wx ad cap (a1 : At wx ad ((X0 : List UInt8).map bv)) a2 (a3 : 1 ≤ 200100) => Text_any ad 1 cap X0 r.p wx Hl0.out a1 a2 (by have := Hf.out.p; omega))
    obtain ⟨X1, hX1⟩ : ∃ X, X0 ++ num r.p.size ++ bytesOf r.p = X := ⟨_, rfl⟩
    rw [hX1] at HN0
    have HN1 := Lib.hid (fun wx ad cap (a1 : At wx ad ((X1 : List UInt8).map bv)) a2 (a3 : (X1 : List UInt8).length ≤ 200100) => Text_any ad (X1 : List UInt8).length cap X1 r.t wx rfl a1 a2 (by have := Hf.out.t; omega))
    obtain ⟨X2, hX2⟩ : ∃ X, X1 ++ num r.t.size ++ bytesOf r.t = X := ⟨_, rfl⟩
    rw [hX2] at HN1
    have HX : Hid (X2 = putQ r) := Lib.hid (by rw [Hq.out, ← hX2, ← hX1, H0.out]; simp)
    have HL : Hid (X1.length ≤ 200100) := Lib.hid (by rw [← hX1, H0.out]; have := put_len Hr.out Hf.out .path; simp only [Rq.put, List.length_append] at this; simp only [List.length_append, List.length_cons, List.length_nil] at this ⊢; omega)
    clear hX1 hX2 hkk
    go_wp2_with fail
    refine (HN0.out _ _ _ HA0.out (fun e => by cases e) (by decide)).mono ?_
    rintro e v0 ⟨ad0, cap0, rfl, a1, a2, ⟨a4, a3⟩, hg⟩
    have HA1 := Lib.hid (And.intro a1 a2)
    replace c0 := hg.cell c0 (by simp)
    replace c1 := hg.cell c1 (by simp)
    replace c2 := hg.cell c2 (by simp)
    replace c3 := hg.cell c3 (by simp)
    replace c4 := hg.cell c4 (by simp)
    replace c5 := hg.cell c5 (by simp)
    replace c6 := hg.cell c6 (by simp)
    replace c7 := hg.cell c7 (by simp)
    replace hgw := Lib.hid (grown_trans hgw.out hg)
    clear a1 a2 a3 a4 hg HN0
    go_wp2_with fail
    refine (HN1.out _ _ _ HA1.out.1 HA1.out.2 HL.out).mono ?_
    rintro e v1 ⟨ad1, cap1, rfl, a1, a2, ⟨a4, a3⟩, hg⟩
    have Hfin : Hid (MadeIs w X2 (.returned (.slice ad1 X2.length cap1)) v1) := Lib.hid (made_quiet hgw.out ⟨ad1, cap1, rfl, a1, a2, ⟨a4, a3⟩, hg⟩)
    clear a1 a2 a3 a4 hg c0 c1 c2 c3 c4 c5 c6 c7
    go_wp2
    go_ret
    rw [← HX.out]
    exact Hfin.out
  · have hq : putQ r = putL r 1 := by unfold putQ; rw [if_pos hm, hk]; rfl
    have hfin : putL r 1 = UInt8.ofNat r.k :: ((num r.p.size ++ bytesOf r.p)) := by simp [putL, hk, flds, Rq.put]
    have Hq := Lib.hid (hq.trans hfin)
    clear hq hfin hm
    have q1 : ((r.k : Int) == 1) = false := by rw [hk]; rfl
    have q7 : ((r.k : Int) == 7) = false := by rw [hk]; rfl
    have q8 : ((r.k : Int) == 8) = false := by rw [hk]; rfl
    have q9 : ((r.k : Int) == 9) = false := by rw [hk]; rfl
    have q10 : ((r.k : Int) == 10) = false := by rw [hk]; rfl
    have q11 : ((r.k : Int) == 11) = true := by rw [hk]; rfl
    have q12 : ((r.k : Int) == 12) = false := by rw [hk]; rfl
    have q13 : ((r.k : Int) == 13) = false := by rw [hk]; rfl
    have q3 : ((r.k : Int) == 3) = false := by rw [hk]; rfl
    have q4 : ((r.k : Int) == 4) = false := by rw [hk]; rfl
    have q5 : ((r.k : Int) == 5) = false := by rw [hk]; rfl
    have q6 : ((r.k : Int) == 6) = false := by rw [hk]; rfl
    obtain ⟨k, hkk⟩ : ∃ k, r.k = k := ⟨_, rfl⟩
    rw [hkk] at q1 q7 q8 q9 q10 q11 q12 q13 q3 q4 q5 q6 c0
    clear hk
    have HN0 := Lib.hid (fun wx ad cap (a1 : At wx ad ((X0 : List UInt8).map bv)) a2 (a3 : 1 ≤ 200100) => Text_any ad 1 cap X0 r.p wx Hl0.out a1 a2 (by have := Hf.out.p; omega))
    obtain ⟨X1, hX1⟩ : ∃ X, X0 ++ num r.p.size ++ bytesOf r.p = X := ⟨_, rfl⟩
    rw [hX1] at HN0
    have HX : Hid (X1 = putQ r) := Lib.hid (by rw [Hq.out, ← hX1, H0.out]; simp)
    clear hX1 hkk
    go_wp2_with fail
    refine (HN0.out _ _ _ HA0.out (fun e => by cases e) (by decide)).mono ?_
    rintro e v0 ⟨ad0, cap0, rfl, a1, a2, ⟨a4, a3⟩, hg⟩
    have Hfin : Hid (MadeIs w X1 (.returned (.slice ad0 X1.length cap0)) v0) := Lib.hid (made_quiet hgw.out ⟨ad0, cap0, rfl, a1, a2, ⟨a4, a3⟩, hg⟩)
    replace c0 := hg.cell c0 (by simp)
    replace c1 := hg.cell c1 (by simp)
    replace c2 := hg.cell c2 (by simp)
    replace c3 := hg.cell c3 (by simp)
    replace c4 := hg.cell c4 (by simp)
    replace c5 := hg.cell c5 (by simp)
    replace c6 := hg.cell c6 (by simp)
    replace c7 := hg.cell c7 (by simp)
    clear a1 a2 a3 a4 hg
    go_wp2
    go_ret
    rw [← HX.out]
    exact Hfin.out
  · have hq : putQ r = putL r 2 := by unfold putQ; rw [if_pos hm, hk]; rfl
    have hfin : putL r 2 = UInt8.ofNat r.k :: ((num r.p.size ++ bytesOf r.p) ++ (num r.t.size ++ bytesOf r.t)) := by simp [putL, hk, flds, Rq.put]
    have Hq := Lib.hid (hq.trans hfin)
    clear hq hfin hm
    have q1 : ((r.k : Int) == 1) = false := by rw [hk]; rfl
    have q7 : ((r.k : Int) == 7) = false := by rw [hk]; rfl
    have q8 : ((r.k : Int) == 8) = false := by rw [hk]; rfl
    have q9 : ((r.k : Int) == 9) = false := by rw [hk]; rfl
    have q10 : ((r.k : Int) == 10) = false := by rw [hk]; rfl
    have q11 : ((r.k : Int) == 11) = false := by rw [hk]; rfl
    have q12 : ((r.k : Int) == 12) = true := by rw [hk]; rfl
    have q13 : ((r.k : Int) == 13) = false := by rw [hk]; rfl
    have q3 : ((r.k : Int) == 3) = false := by rw [hk]; rfl
    have q4 : ((r.k : Int) == 4) = false := by rw [hk]; rfl
    have q5 : ((r.k : Int) == 5) = false := by rw [hk]; rfl
    have q6 : ((r.k : Int) == 6) = false := by rw [hk]; rfl
    obtain ⟨k, hkk⟩ : ∃ k, r.k = k := ⟨_, rfl⟩
    rw [hkk] at q1 q7 q8 q9 q10 q11 q12 q13 q3 q4 q5 q6 c0
    clear hk
    have HN0 := Lib.hid (fun wx ad cap (a1 : At wx ad ((X0 : List UInt8).map bv)) a2 (a3 : 1 ≤ 200100) => Text_any ad 1 cap X0 r.p wx Hl0.out a1 a2 (by have := Hf.out.p; omega))
    obtain ⟨X1, hX1⟩ : ∃ X, X0 ++ num r.p.size ++ bytesOf r.p = X := ⟨_, rfl⟩
    rw [hX1] at HN0
    have HN1 := Lib.hid (fun wx ad cap (a1 : At wx ad ((X1 : List UInt8).map bv)) a2 (a3 : (X1 : List UInt8).length ≤ 200100) => Text_any ad (X1 : List UInt8).length cap X1 r.t wx rfl a1 a2 (by have := Hf.out.t; omega))
    obtain ⟨X2, hX2⟩ : ∃ X, X1 ++ num r.t.size ++ bytesOf r.t = X := ⟨_, rfl⟩
    rw [hX2] at HN1
    have HX : Hid (X2 = putQ r) := Lib.hid (by rw [Hq.out, ← hX2, ← hX1, H0.out]; simp)
    have HL : Hid (X1.length ≤ 200100) := Lib.hid (by rw [← hX1, H0.out]; have := put_len Hr.out Hf.out .path; simp only [Rq.put, List.length_append] at this; simp only [List.length_append, List.length_cons, List.length_nil] at this ⊢; omega)
    clear hX1 hX2 hkk
    go_wp2_with fail
    refine (HN0.out _ _ _ HA0.out (fun e => by cases e) (by decide)).mono ?_
    rintro e v0 ⟨ad0, cap0, rfl, a1, a2, ⟨a4, a3⟩, hg⟩
    have HA1 := Lib.hid (And.intro a1 a2)
    replace c0 := hg.cell c0 (by simp)
    replace c1 := hg.cell c1 (by simp)
    replace c2 := hg.cell c2 (by simp)
    replace c3 := hg.cell c3 (by simp)
    replace c4 := hg.cell c4 (by simp)
    replace c5 := hg.cell c5 (by simp)
    replace c6 := hg.cell c6 (by simp)
    replace c7 := hg.cell c7 (by simp)
    replace hgw := Lib.hid (grown_trans hgw.out hg)
    clear a1 a2 a3 a4 hg HN0
    go_wp2_with fail
    refine (HN1.out _ _ _ HA1.out.1 HA1.out.2 HL.out).mono ?_
    rintro e v1 ⟨ad1, cap1, rfl, a1, a2, ⟨a4, a3⟩, hg⟩
    have Hfin : Hid (MadeIs w X2 (.returned (.slice ad1 X2.length cap1)) v1) := Lib.hid (made_quiet hgw.out ⟨ad1, cap1, rfl, a1, a2, ⟨a4, a3⟩, hg⟩)
    clear a1 a2 a3 a4 hg c0 c1 c2 c3 c4 c5 c6 c7
    go_wp2
    go_ret
    rw [← HX.out]
    exact Hfin.out
  · have hq : putQ r = putL r 2 := by unfold putQ; rw [if_pos hm, hk]; rfl
    have hfin : putL r 2 = UInt8.ofNat r.k :: ((num r.p.size ++ bytesOf r.p) ++ num r.at_) := by simp [putL, hk, flds, Rq.put]
    have Hq := Lib.hid (hq.trans hfin)
    clear hq hfin hm
    have q1 : ((r.k : Int) == 1) = false := by rw [hk]; rfl
    have q7 : ((r.k : Int) == 7) = false := by rw [hk]; rfl
    have q8 : ((r.k : Int) == 8) = false := by rw [hk]; rfl
    have q9 : ((r.k : Int) == 9) = false := by rw [hk]; rfl
    have q10 : ((r.k : Int) == 10) = false := by rw [hk]; rfl
    have q11 : ((r.k : Int) == 11) = false := by rw [hk]; rfl
    have q12 : ((r.k : Int) == 12) = false := by rw [hk]; rfl
    have q13 : ((r.k : Int) == 13) = true := by rw [hk]; rfl
    have q3 : ((r.k : Int) == 3) = false := by rw [hk]; rfl
    have q4 : ((r.k : Int) == 4) = false := by rw [hk]; rfl
    have q5 : ((r.k : Int) == 5) = false := by rw [hk]; rfl
    have q6 : ((r.k : Int) == 6) = false := by rw [hk]; rfl
    obtain ⟨k, hkk⟩ : ∃ k, r.k = k := ⟨_, rfl⟩
    rw [hkk] at q1 q7 q8 q9 q10 q11 q12 q13 q3 q4 q5 q6 c0
    clear hk
    have HN0 := Lib.hid (fun wx ad cap (a1 : At wx ad ((X0 : List UInt8).map bv)) a2 (a3 : 1 ≤ 200100) => Text_any ad 1 cap X0 r.p wx Hl0.out a1 a2 (by have := Hf.out.p; omega))
    obtain ⟨X1, hX1⟩ : ∃ X, X0 ++ num r.p.size ++ bytesOf r.p = X := ⟨_, rfl⟩
    rw [hX1] at HN0
    have HN1 := Lib.hid (fun wx ad cap (a1 : At wx ad ((X1 : List UInt8).map bv)) a2 (a3 : (X1 : List UInt8).length ≤ 200100) => Number_any ad (X1 : List UInt8).length cap X1 r.at_ wx (by have := Hr.out.at_; omega) rfl a1 a2 (by omega))
    obtain ⟨X2, hX2⟩ : ∃ X, X1 ++ num r.at_ = X := ⟨_, rfl⟩
    rw [hX2] at HN1
    have HX : Hid (X2 = putQ r) := Lib.hid (by rw [Hq.out, ← hX2, ← hX1, H0.out]; simp)
    have HL : Hid (X1.length ≤ 200100) := Lib.hid (by rw [← hX1, H0.out]; have := put_len Hr.out Hf.out .path; simp only [Rq.put, List.length_append] at this; simp only [List.length_append, List.length_cons, List.length_nil] at this ⊢; omega)
    clear hX1 hX2 hkk
    go_wp2_with fail
    refine (HN0.out _ _ _ HA0.out (fun e => by cases e) (by decide)).mono ?_
    rintro e v0 ⟨ad0, cap0, rfl, a1, a2, ⟨a4, a3⟩, hg⟩
    have HA1 := Lib.hid (And.intro a1 a2)
    replace c0 := hg.cell c0 (by simp)
    replace c1 := hg.cell c1 (by simp)
    replace c2 := hg.cell c2 (by simp)
    replace c3 := hg.cell c3 (by simp)
    replace c4 := hg.cell c4 (by simp)
    replace c5 := hg.cell c5 (by simp)
    replace c6 := hg.cell c6 (by simp)
    replace c7 := hg.cell c7 (by simp)
    replace hgw := Lib.hid (grown_trans hgw.out hg)
    clear a1 a2 a3 a4 hg HN0
    go_wp2_with fail
    refine (HN1.out _ _ _ HA1.out.1 HA1.out.2 HL.out).mono ?_
    rintro e v1 ⟨ad1, cap1, rfl, a1, a2, ⟨a4, a3⟩, hg⟩
    have Hfin : Hid (MadeIs w X2 (.returned (.slice ad1 X2.length cap1)) v1) := Lib.hid (made_quiet hgw.out ⟨ad1, cap1, rfl, a1, a2, ⟨a4, a3⟩, hg⟩)
    clear a1 a2 a3 a4 hg c0 c1 c2 c3 c4 c5 c6 c7
    go_wp2
    go_ret
    rw [← HX.out]
    exact Hfin.out
end Go.Proofs.Ytlphmpimpeekcaa
