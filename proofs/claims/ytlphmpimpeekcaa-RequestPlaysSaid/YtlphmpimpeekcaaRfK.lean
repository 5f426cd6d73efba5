/- RfA, RfB, RfC, RfD in one. -/
import Derived.Test.YtlphmpimpeekcaaBkMath3
import Derived.Test.YtlphmpimpeekcaaRefA
import Derived.Test.YtlphmpimpeekcaaReadsC
import Derived.Test.YtlphmpimpeekcaaWalkBack
section
/- The document's answer for requests: only. -/
namespace Go.Proofs.Ytlphmpimpeekcaa
open Go.RowKit Go.Grommet

def onlyQ (r : Rq) : Rq := (flds r.k).foldl (fun s f => setF s r f) { zeroRq with k := r.k }
theorem own_fill {w0 w : World} {Ps : List Pr} (h : Grommet.Own w0 w Ps) (k : Nat) {X : Nat} {T : TypeId} {cs : Array Value} (hk : Ps[k]? = some (boxP X T cs)) (hc : cs.size = 8) (x : Rq) : Grommet.Own w0 ((((((((w.setCell ⟨X, 0, none⟩ (.int .u8 (x.k : Int))).setCell ⟨X, 1, none⟩ (.int .u8 (x.fl : Int))).setCell ⟨X, 2, none⟩ (.int .u64 (x.fd : Int))).setCell ⟨X, 3, none⟩ (.int .u64 (x.at_ : Int))).setCell ⟨X, 4, none⟩ (.int .u64 (x.sz : Int))).setCell ⟨X, 5, none⟩ (.string x.p)).setCell ⟨X, 6, none⟩ (.string x.t)).setCell ⟨X, 7, none⟩ (.string x.d)) (Ps.set k (boxP X T x.cs)) := by
  obtain ⟨l⟩ := cs
  match l, hc with
  | [c0, c1, c2, c3, c4, c5, c6, c7], _ =>
    have hlt : k < Ps.length := (List.getElem?_eq_some_iff.mp hk).1
    have h0 := own_put h k hk 0 (.int .u8 (x.k : Int))
    have h1 := own_put h0 k (by simp [hlt]; rfl) 1 (.int .u8 (x.fl : Int))
    have h2 := own_put h1 k (by simp [hlt]; rfl) 2 (.int .u64 (x.fd : Int))
    have h3 := own_put h2 k (by simp [hlt]; rfl) 3 (.int .u64 (x.at_ : Int))
    have h4 := own_put h3 k (by simp [hlt]; rfl) 4 (.int .u64 (x.sz : Int))
    have h5 := own_put h4 k (by simp [hlt]; rfl) 5 (.string x.p)
    have h6 := own_put h5 k (by simp [hlt]; rfl) 6 (.string x.t)
    have h7 := own_put h6 k (by simp [hlt]; rfl) 7 (.string x.d)
    simp only [List.set_set] at h7
    exact h7
theorem flds_none {k : Nat} (h : ¬ (1 ≤ k ∧ k ≤ 13)) : flds k = [] := by
  match k, h with
  | 0, _ => rfl
  | 1, h | 2, h | 3, h | 4, h | 5, h | 6, h | 7, h | 8, h | 9, h | 10, h | 11, h | 12, h | 13, h => exact absurd ⟨by decide, by decide⟩ h
  | n + 14, _ => rfl

set_option maxRecDepth 100000 in
set_option maxHeartbeats 8000000 in
theorem ROnly_any (r : Rq) (w : World) : Calls Try.prog 32 #[.agg r.cs] w fun e w' => e = .returned (.tuple #[.agg (onlyQ r).cs, .bool (isKind r.k)]) ∧ w.grownBy w' none := by
  have hO := ((Own.nil w).addBox 24 r.cs).addBox 24 #[.int .u8 0, .int .u8 0, .int .u64 0, .int .u64 0, .int .u64 0, .string ⟨#[]⟩, .string ⟨#[]⟩, .string ⟨#[]⟩]
  rw [show (w.alloc (.cells r.cs 24)).heap.size = w.heap.size + 1 by simp] at hO
  obtain ⟨G, hG⟩ : ∃ G, w.heap.size = G := ⟨_, rfl⟩
  rw [hG] at hO
  obtain ⟨Z, hZ⟩ : ∃ Z, G + 1 = Z := ⟨_, rfl⟩
  rw [hZ] at hO
  go_enter Try.func32, Try.ntmps32
  go_upto_region 1 with fail
  try (change Code.wp _ _ _ _ ((w.alloc (.cells r.cs 24)).alloc (.cells #[.int .u8 0, .int .u8 0, .int .u64 0, .int .u64 0, .int .u64 0, .string ⟨#[]⟩, .string ⟨#[]⟩, .string ⟨#[]⟩] 24)))
  try rw [hZ]
  generalize World.alloc (World.alloc _ _) _ = w1 at *
  clear hG hZ
  have c0 := (own_cellB hO 0 rfl 0 (u := .int .u8 (r.k : Int)) rfl).1
  have hOn := hO.addBox 24 #[.int .u8 (r.k : Int), .int .u8 0, .int .u64 0, .int .u64 0, .int .u64 0, .string ⟨#[]⟩, .string ⟨#[]⟩, .string ⟨#[]⟩]
  obtain ⟨Y, hY⟩ : ∃ Y, w1.heap.size = Y := ⟨_, rfl⟩
  rw [hY] at hOn
  go_upto_region 2 with fail
  generalize World.alloc _ _ = w2 at hOn ⊢
  clear hY hO c0
  have hO := Lib.hid hOn
  have c0 := (own_cellB hOn 0 rfl 0 (u := .int .u8 (r.k : Int)) rfl).1
  have k0 : (0 : Int) ≤ (r.k : Int) := by omega
  clear hOn
  have hkk : r.k = 1 ∨ r.k = 2 ∨ r.k = 3 ∨ r.k = 4 ∨ r.k = 5 ∨ r.k = 6 ∨ r.k = 7 ∨ r.k = 8 ∨ r.k = 9 ∨ r.k = 10 ∨ r.k = 11 ∨ r.k = 12 ∨ r.k = 13 ∨ ¬ (1 ≤ r.k ∧ r.k ≤ 13) := by omega
  rcases hkk with hk | hk | hk | hk | hk | hk | hk | hk | hk | hk | hk | hk | hk | hk
  · have HQ : Hid (onlyQ r = { zeroRq with k := r.k, p := r.p, fl := r.fl }) := Lib.hid (by unfold onlyQ; rw [hk]; rfl)
    have HI : Hid (isKind r.k = true) := Lib.hid (by rw [hk]; rfl)
    have q1 : ((r.k : Int) == 1) = true := by rw [hk]; rfl
    have q2 : ((r.k : Int) == 2) = false := by rw [hk]; rfl
    have q3 : ((r.k : Int) == 3) = false := by rw [hk]; rfl
    have q4 : ((r.k : Int) == 4) = false := by rw [hk]; rfl
    have q5 : ((r.k : Int) == 5) = false := by rw [hk]; rfl
    have q6 : ((r.k : Int) == 6) = false := by rw [hk]; rfl
    have q7 : ((r.k : Int) == 7) = false := by rw [hk]; rfl
    have q8 : ((r.k : Int) == 8) = false := by rw [hk]; rfl
    have q9 : ((r.k : Int) == 9) = false := by rw [hk]; rfl
    have q11 : ((r.k : Int) == 11) = false := by rw [hk]; rfl
    have q10 : ((r.k : Int) == 10) = false := by rw [hk]; rfl
    have q12 : ((r.k : Int) == 12) = false := by rw [hk]; rfl
    have q13 : ((r.k : Int) == 13) = false := by rw [hk]; rfl
    clear hk
    have g0 := (own_cellB hO.out 0 rfl 5 (u := .string r.p) rfl).1
    obtain ⟨y0, yz0⟩ := own_cellB hO.out 2 rfl 5 (u := .string ⟨#[]⟩) rfl
    have hOn := own_put hO.out 2 rfl 5 (.string r.p)
    go_upto_region 6 with fail
    generalize World.setCell _ _ _ = wn at hOn ⊢
    replace hO : Hid (Grommet.Own w wn [boxP G 24 r.cs, boxP Z 24 #[.int .u8 0, .int .u8 0, .int .u64 0, .int .u64 0, .int .u64 0, .string ⟨#[]⟩, .string ⟨#[]⟩, .string ⟨#[]⟩], boxP Y 24 #[.int .u8 (r.k : Int), .int .u8 0, .int .u64 0, .int .u64 0, .int .u64 0, .string r.p, .string ⟨#[]⟩, .string ⟨#[]⟩]]) := Lib.hid hOn
    clear hOn g0 y0 yz0 c0 k0
    have g1 := (own_cellB hO.out 0 rfl 1 (u := .int .u8 (r.fl : Int)) rfl).1
    obtain ⟨y1, yz1⟩ := own_cellB hO.out 2 rfl 1 (u := .int .u8 0) rfl
    have hOn := own_put hO.out 2 rfl 1 (.int .u8 (r.fl : Int))
    go_upto_region 31 with fail
    generalize World.setCell _ _ _ = wn at hOn ⊢
    replace hO : Hid (Grommet.Own w wn [boxP G 24 r.cs, boxP Z 24 #[.int .u8 0, .int .u8 0, .int .u64 0, .int .u64 0, .int .u64 0, .string ⟨#[]⟩, .string ⟨#[]⟩, .string ⟨#[]⟩], boxP Y 24 #[.int .u8 (r.k : Int), .int .u8 (r.fl : Int), .int .u64 0, .int .u64 0, .int .u64 0, .string r.p, .string ⟨#[]⟩, .string ⟨#[]⟩]]) := Lib.hid hOn
    clear hOn g1 y1 yz1
    have y0 := (own_cellB hO.out 2 rfl 0 (u := .int .u8 (r.k : Int)) rfl).1
    have y1 := (own_cellB hO.out 2 rfl 1 (u := .int .u8 (r.fl : Int)) rfl).1
    have y2 := (own_cellB hO.out 2 rfl 2 (u := .int .u64 0) rfl).1
    have y3 := (own_cellB hO.out 2 rfl 3 (u := .int .u64 0) rfl).1
    have y4 := (own_cellB hO.out 2 rfl 4 (u := .int .u64 0) rfl).1
    have y5 := (own_cellB hO.out 2 rfl 5 (u := .string r.p) rfl).1
    have y6 := (own_cellB hO.out 2 rfl 6 (u := .string ⟨#[]⟩) rfl).1
    have y7 := (own_cellB hO.out 2 rfl 7 (u := .string ⟨#[]⟩) rfl).1
    obtain ⟨z0, z0z⟩ := own_cellB hO.out 1 rfl 0 (u := .int .u8 0) rfl
    obtain ⟨z1, z1z⟩ := own_cellB hO.out 1 rfl 1 (u := .int .u8 0) rfl
    obtain ⟨z2, z2z⟩ := own_cellB hO.out 1 rfl 2 (u := .int .u64 0) rfl
    obtain ⟨z3, z3z⟩ := own_cellB hO.out 1 rfl 3 (u := .int .u64 0) rfl
    obtain ⟨z4, z4z⟩ := own_cellB hO.out 1 rfl 4 (u := .int .u64 0) rfl
    obtain ⟨z5, z5z⟩ := own_cellB hO.out 1 rfl 5 (u := .string ⟨#[]⟩) rfl
    obtain ⟨z6, z6z⟩ := own_cellB hO.out 1 rfl 6 (u := .string ⟨#[]⟩) rfl
    obtain ⟨z7, z7z⟩ := own_cellB hO.out 1 rfl 7 (u := .string ⟨#[]⟩) rfl
    have hF : Hid (Grommet.Own w ((((((((wn.setCell ⟨Z, 0, none⟩ (.int .u8 (r.k : Int))).setCell ⟨Z, 1, none⟩ (.int .u8 (r.fl : Int))).setCell ⟨Z, 2, none⟩ (.int .u64 0)).setCell ⟨Z, 3, none⟩ (.int .u64 0)).setCell ⟨Z, 4, none⟩ (.int .u64 0)).setCell ⟨Z, 5, none⟩ (.string r.p)).setCell ⟨Z, 6, none⟩ (.string ⟨#[]⟩)).setCell ⟨Z, 7, none⟩ (.string ⟨#[]⟩)) [boxP G 24 r.cs, boxP Z 24 (Rq.mk (r.k) (r.fl) 0 0 0 r.p ⟨#[]⟩ ⟨#[]⟩).cs, boxP Y 24 #[.int .u8 (r.k : Int), .int .u8 (r.fl : Int), .int .u64 0, .int .u64 0, .int .u64 0, .string r.p, .string ⟨#[]⟩, .string ⟨#[]⟩]]) := Lib.hid (own_fill hO.out 1 rfl (cs := #[.int .u8 0, .int .u8 0, .int .u64 0, .int .u64 0, .int .u64 0, .string ⟨#[]⟩, .string ⟨#[]⟩, .string ⟨#[]⟩]) rfl (Rq.mk (r.k) (r.fl) 0 0 0 r.p ⟨#[]⟩ ⟨#[]⟩))
    obtain ⟨W3, hW3⟩ : ∃ W3, ((((((((wn.setCell ⟨Z, 0, none⟩ (.int .u8 (r.k : Int))).setCell ⟨Z, 1, none⟩ (.int .u8 (r.fl : Int))).setCell ⟨Z, 2, none⟩ (.int .u64 0)).setCell ⟨Z, 3, none⟩ (.int .u64 0)).setCell ⟨Z, 4, none⟩ (.int .u64 0)).setCell ⟨Z, 5, none⟩ (.string r.p)).setCell ⟨Z, 6, none⟩ (.string ⟨#[]⟩)).setCell ⟨Z, 7, none⟩ (.string ⟨#[]⟩)) = W3 := ⟨_, rfl⟩
    rw [hW3] at hF
    clear hO
    go_wp2
    try rw [hW3]
    clear hW3 z0 z0z y0 z1 z1z y1 z2 z2z y2 z3 z3z y3 z4 z4z y4 z5 z5z y5 z6 z6z y6 z7 z7z y7
    have x0 := (own_cellB hF.out 1 rfl 0 (u := .int .u8 (r.k : Int)) rfl).1
    have x1 := (own_cellB hF.out 1 rfl 1 (u := .int .u8 (r.fl : Int)) rfl).1
    have x2 := (own_cellB hF.out 1 rfl 2 (u := .int .u64 0) rfl).1
    have x3 := (own_cellB hF.out 1 rfl 3 (u := .int .u64 0) rfl).1
    have x4 := (own_cellB hF.out 1 rfl 4 (u := .int .u64 0) rfl).1
    have x5 := (own_cellB hF.out 1 rfl 5 (u := .string r.p) rfl).1
    have x6 := (own_cellB hF.out 1 rfl 6 (u := .string ⟨#[]⟩) rfl).1
    have x7 := (own_cellB hF.out 1 rfl 7 (u := .string ⟨#[]⟩) rfl).1
    exact bodyPost_ret (v := .tuple #[.agg #[.int .u8 (r.k : Int), .int .u8 (r.fl : Int), .int .u64 0, .int .u64 0, .int .u64 0, .string r.p, .string ⟨#[]⟩, .string ⟨#[]⟩], .bool true]) (by simp [results, Try.results32, go_sem, x0, x1, x2, x3, x4, x5, x6, x7]) rfl ⟨by rw [HQ.out, HI.out]; rfl, hF.out.grown⟩
  · have HQ : Hid (onlyQ r = { zeroRq with k := r.k, fd := r.fd }) := Lib.hid (by unfold onlyQ; rw [hk]; rfl)
    have HI : Hid (isKind r.k = true) := Lib.hid (by rw [hk]; rfl)
    have q1 : ((r.k : Int) == 1) = false := by rw [hk]; rfl
    have q2 : ((r.k : Int) == 2) = true := by rw [hk]; rfl
    have q3 : ((r.k : Int) == 3) = false := by rw [hk]; rfl
    have q4 : ((r.k : Int) == 4) = false := by rw [hk]; rfl
    have q5 : ((r.k : Int) == 5) = false := by rw [hk]; rfl
    have q6 : ((r.k : Int) == 6) = false := by rw [hk]; rfl
    have q7 : ((r.k : Int) == 7) = false := by rw [hk]; rfl
    have q8 : ((r.k : Int) == 8) = false := by rw [hk]; rfl
    have q9 : ((r.k : Int) == 9) = false := by rw [hk]; rfl
    have q11 : ((r.k : Int) == 11) = false := by rw [hk]; rfl
    have q10 : ((r.k : Int) == 10) = false := by rw [hk]; rfl
    have q12 : ((r.k : Int) == 12) = false := by rw [hk]; rfl
    have q13 : ((r.k : Int) == 13) = false := by rw [hk]; rfl
    clear hk
    have g0 := (own_cellB hO.out 0 rfl 2 (u := .int .u64 (r.fd : Int)) rfl).1
    obtain ⟨y0, yz0⟩ := own_cellB hO.out 2 rfl 2 (u := .int .u64 0) rfl
    have hOn := own_put hO.out 2 rfl 2 (.int .u64 (r.fd : Int))
    go_upto_region 31 with fail
    generalize World.setCell _ _ _ = wn at hOn ⊢
    replace hO : Hid (Grommet.Own w wn [boxP G 24 r.cs, boxP Z 24 #[.int .u8 0, .int .u8 0, .int .u64 0, .int .u64 0, .int .u64 0, .string ⟨#[]⟩, .string ⟨#[]⟩, .string ⟨#[]⟩], boxP Y 24 #[.int .u8 (r.k : Int), .int .u8 0, .int .u64 (r.fd : Int), .int .u64 0, .int .u64 0, .string ⟨#[]⟩, .string ⟨#[]⟩, .string ⟨#[]⟩]]) := Lib.hid hOn
    clear hOn g0 y0 yz0 c0 k0
    have y0 := (own_cellB hO.out 2 rfl 0 (u := .int .u8 (r.k : Int)) rfl).1
    have y1 := (own_cellB hO.out 2 rfl 1 (u := .int .u8 0) rfl).1
    have y2 := (own_cellB hO.out 2 rfl 2 (u := .int .u64 (r.fd : Int)) rfl).1
    have y3 := (own_cellB hO.out 2 rfl 3 (u := .int .u64 0) rfl).1
    have y4 := (own_cellB hO.out 2 rfl 4 (u := .int .u64 0) rfl).1
    have y5 := (own_cellB hO.out 2 rfl 5 (u := .string ⟨#[]⟩) rfl).1
    have y6 := (own_cellB hO.out 2 rfl 6 (u := .string ⟨#[]⟩) rfl).1
    have y7 := (own_cellB hO.out 2 rfl 7 (u := .string ⟨#[]⟩) rfl).1
    obtain ⟨z0, z0z⟩ := own_cellB hO.out 1 rfl 0 (u := .int .u8 0) rfl
    obtain ⟨z1, z1z⟩ := own_cellB hO.out 1 rfl 1 (u := .int .u8 0) rfl
    obtain ⟨z2, z2z⟩ := own_cellB hO.out 1 rfl 2 (u := .int .u64 0) rfl
    obtain ⟨z3, z3z⟩ := own_cellB hO.out 1 rfl 3 (u := .int .u64 0) rfl
    obtain ⟨z4, z4z⟩ := own_cellB hO.out 1 rfl 4 (u := .int .u64 0) rfl
    obtain ⟨z5, z5z⟩ := own_cellB hO.out 1 rfl 5 (u := .string ⟨#[]⟩) rfl
    obtain ⟨z6, z6z⟩ := own_cellB hO.out 1 rfl 6 (u := .string ⟨#[]⟩) rfl
    obtain ⟨z7, z7z⟩ := own_cellB hO.out 1 rfl 7 (u := .string ⟨#[]⟩) rfl
    have hF : Hid (Grommet.Own w ((((((((wn.setCell ⟨Z, 0, none⟩ (.int .u8 (r.k : Int))).setCell ⟨Z, 1, none⟩ (.int .u8 0)).setCell ⟨Z, 2, none⟩ (.int .u64 (r.fd : Int))).setCell ⟨Z, 3, none⟩ (.int .u64 0)).setCell ⟨Z, 4, none⟩ (.int .u64 0)).setCell ⟨Z, 5, none⟩ (.string ⟨#[]⟩)).setCell ⟨Z, 6, none⟩ (.string ⟨#[]⟩)).setCell ⟨Z, 7, none⟩ (.string ⟨#[]⟩)) [boxP G 24 r.cs, boxP Z 24 (Rq.mk (r.k) 0 (r.fd) 0 0 ⟨#[]⟩ ⟨#[]⟩ ⟨#[]⟩).cs, boxP Y 24 #[.int .u8 (r.k : Int), .int .u8 0, .int .u64 (r.fd : Int), .int .u64 0, .int .u64 0, .string ⟨#[]⟩, .string ⟨#[]⟩, .string ⟨#[]⟩]]) := Lib.hid (own_fill hO.out 1 rfl (cs := #[.int .u8 0, .int .u8 0, .int .u64 0, .int .u64 0, .int .u64 0, .string ⟨#[]⟩, .string ⟨#[]⟩, .string ⟨#[]⟩]) rfl (Rq.mk (r.k) 0 (r.fd) 0 0 ⟨#[]⟩ ⟨#[]⟩ ⟨#[]⟩))
    obtain ⟨W3, hW3⟩ : ∃ W3, ((((((((wn.setCell ⟨Z, 0, none⟩ (.int .u8 (r.k : Int))).setCell ⟨Z, 1, none⟩ (.int .u8 0)).setCell ⟨Z, 2, none⟩ (.int .u64 (r.fd : Int))).setCell ⟨Z, 3, none⟩ (.int .u64 0)).setCell ⟨Z, 4, none⟩ (.int .u64 0)).setCell ⟨Z, 5, none⟩ (.string ⟨#[]⟩)).setCell ⟨Z, 6, none⟩ (.string ⟨#[]⟩)).setCell ⟨Z, 7, none⟩ (.string ⟨#[]⟩)) = W3 := ⟨_, rfl⟩
    rw [hW3] at hF
    clear hO
    go_wp2
    try rw [hW3]
    clear hW3 z0 z0z y0 z1 z1z y1 z2 z2z y2 z3 z3z y3 z4 z4z y4 z5 z5z y5 z6 z6z y6 z7 z7z y7
    have x0 := (own_cellB hF.out 1 rfl 0 (u := .int .u8 (r.k : Int)) rfl).1
    have x1 := (own_cellB hF.out 1 rfl 1 (u := .int .u8 0) rfl).1
    have x2 := (own_cellB hF.out 1 rfl 2 (u := .int .u64 (r.fd : Int)) rfl).1
    have x3 := (own_cellB hF.out 1 rfl 3 (u := .int .u64 0) rfl).1
    have x4 := (own_cellB hF.out 1 rfl 4 (u := .int .u64 0) rfl).1
    have x5 := (own_cellB hF.out 1 rfl 5 (u := .string ⟨#[]⟩) rfl).1
    have x6 := (own_cellB hF.out 1 rfl 6 (u := .string ⟨#[]⟩) rfl).1
    have x7 := (own_cellB hF.out 1 rfl 7 (u := .string ⟨#[]⟩) rfl).1
    exact bodyPost_ret (v := .tuple #[.agg #[.int .u8 (r.k : Int), .int .u8 0, .int .u64 (r.fd : Int), .int .u64 0, .int .u64 0, .string ⟨#[]⟩, .string ⟨#[]⟩, .string ⟨#[]⟩], .bool true]) (by simp [results, Try.results32, go_sem, x0, x1, x2, x3, x4, x5, x6, x7]) rfl ⟨by rw [HQ.out, HI.out]; rfl, hF.out.grown⟩
  · have HQ : Hid (onlyQ r = { zeroRq with k := r.k, fd := r.fd, sz := r.sz }) := Lib.hid (by unfold onlyQ; rw [hk]; rfl)
    have HI : Hid (isKind r.k = true) := Lib.hid (by rw [hk]; rfl)
    have q1 : ((r.k : Int) == 1) = false := by rw [hk]; rfl
    have q2 : ((r.k : Int) == 2) = false := by rw [hk]; rfl
    have q3 : ((r.k : Int) == 3) = true := by rw [hk]; rfl
    have q4 : ((r.k : Int) == 4) = false := by rw [hk]; rfl
    have q5 : ((r.k : Int) == 5) = false := by rw [hk]; rfl
    have q6 : ((r.k : Int) == 6) = false := by rw [hk]; rfl
    have q7 : ((r.k : Int) == 7) = false := by rw [hk]; rfl
    have q8 : ((r.k : Int) == 8) = false := by rw [hk]; rfl
    have q9 : ((r.k : Int) == 9) = false := by rw [hk]; rfl
    have q11 : ((r.k : Int) == 11) = false := by rw [hk]; rfl
    have q10 : ((r.k : Int) == 10) = false := by rw [hk]; rfl
    have q12 : ((r.k : Int) == 12) = false := by rw [hk]; rfl
    have q13 : ((r.k : Int) == 13) = false := by rw [hk]; rfl
    clear hk
    have g0 := (own_cellB hO.out 0 rfl 2 (u := .int .u64 (r.fd : Int)) rfl).1
    obtain ⟨y0, yz0⟩ := own_cellB hO.out 2 rfl 2 (u := .int .u64 0) rfl
    have hOn := own_put hO.out 2 rfl 2 (.int .u64 (r.fd : Int))
    go_upto_region 11 with fail
    generalize World.setCell _ _ _ = wn at hOn ⊢
    replace hO : Hid (Grommet.Own w wn [boxP G 24 r.cs, boxP Z 24 #[.int .u8 0, .int .u8 0, .int .u64 0, .int .u64 0, .int .u64 0, .string ⟨#[]⟩, .string ⟨#[]⟩, .string ⟨#[]⟩], boxP Y 24 #[.int .u8 (r.k : Int), .int .u8 0, .int .u64 (r.fd : Int), .int .u64 0, .int .u64 0, .string ⟨#[]⟩, .string ⟨#[]⟩, .string ⟨#[]⟩]]) := Lib.hid hOn
    clear hOn g0 y0 yz0 c0 k0
    have g1 := (own_cellB hO.out 0 rfl 4 (u := .int .u64 (r.sz : Int)) rfl).1
    obtain ⟨y1, yz1⟩ := own_cellB hO.out 2 rfl 4 (u := .int .u64 0) rfl
    have hOn := own_put hO.out 2 rfl 4 (.int .u64 (r.sz : Int))
    go_upto_region 31 with fail
    generalize World.setCell _ _ _ = wn at hOn ⊢
    replace hO : Hid (Grommet.Own w wn [boxP G 24 r.cs, boxP Z 24 #[.int .u8 0, .int .u8 0, .int .u64 0, .int .u64 0, .int .u64 0, .string ⟨#[]⟩, .string ⟨#[]⟩, .string ⟨#[]⟩], boxP Y 24 #[.int .u8 (r.k : Int), .int .u8 0, .int .u64 (r.fd : Int), .int .u64 0, .int .u64 (r.sz : Int), .string ⟨#[]⟩, .string ⟨#[]⟩, .string ⟨#[]⟩]]) := Lib.hid hOn
    clear hOn g1 y1 yz1
    have y0 := (own_cellB hO.out 2 rfl 0 (u := .int .u8 (r.k : Int)) rfl).1
    have y1 := (own_cellB hO.out 2 rfl 1 (u := .int .u8 0) rfl).1
    have y2 := (own_cellB hO.out 2 rfl 2 (u := .int .u64 (r.fd : Int)) rfl).1
    have y3 := (own_cellB hO.out 2 rfl 3 (u := .int .u64 0) rfl).1
    have y4 := (own_cellB hO.out 2 rfl 4 (u := .int .u64 (r.sz : Int)) rfl).1
    have y5 := (own_cellB hO.out 2 rfl 5 (u := .string ⟨#[]⟩) rfl).1
    have y6 := (own_cellB hO.out 2 rfl 6 (u := .string ⟨#[]⟩) rfl).1
    have y7 := (own_cellB hO.out 2 rfl 7 (u := .string ⟨#[]⟩) rfl).1
    obtain ⟨z0, z0z⟩ := own_cellB hO.out 1 rfl 0 (u := .int .u8 0) rfl
    obtain ⟨z1, z1z⟩ := own_cellB hO.out 1 rfl 1 (u := .int .u8 0) rfl
    obtain ⟨z2, z2z⟩ := own_cellB hO.out 1 rfl 2 (u := .int .u64 0) rfl
    obtain ⟨z3, z3z⟩ := own_cellB hO.out 1 rfl 3 (u := .int .u64 0) rfl
    obtain ⟨z4, z4z⟩ := own_cellB hO.out 1 rfl 4 (u := .int .u64 0) rfl
    obtain ⟨z5, z5z⟩ := own_cellB hO.out 1 rfl 5 (u := .string ⟨#[]⟩) rfl
    obtain ⟨z6, z6z⟩ := own_cellB hO.out 1 rfl 6 (u := .string ⟨#[]⟩) rfl
    obtain ⟨z7, z7z⟩ := own_cellB hO.out 1 rfl 7 (u := .string ⟨#[]⟩) rfl
    have hF : Hid (Grommet.Own w ((((((((wn.setCell ⟨Z, 0, none⟩ (.int .u8 (r.k : Int))).setCell ⟨Z, 1, none⟩ (.int .u8 0)).setCell ⟨Z, 2, none⟩ (.int .u64 (r.fd : Int))).setCell ⟨Z, 3, none⟩ (.int .u64 0)).setCell ⟨Z, 4, none⟩ (.int .u64 (r.sz : Int))).setCell ⟨Z, 5, none⟩ (.string ⟨#[]⟩)).setCell ⟨Z, 6, none⟩ (.string ⟨#[]⟩)).setCell ⟨Z, 7, none⟩ (.string ⟨#[]⟩)) [boxP G 24 r.cs, boxP Z 24 (Rq.mk (r.k) 0 (r.fd) 0 (r.sz) ⟨#[]⟩ ⟨#[]⟩ ⟨#[]⟩).cs, boxP Y 24 #[.int .u8 (r.k : Int), .int .u8 0, .int .u64 (r.fd : Int), .int .u64 0, .int .u64 (r.sz : Int), .string ⟨#[]⟩, .string ⟨#[]⟩, .string ⟨#[]⟩]]) := Lib.hid (own_fill hO.out 1 rfl (cs := #[.int .u8 0, .int .u8 0, .int .u64 0, .int .u64 0, .int .u64 0, .string ⟨#[]⟩, .string ⟨#[]⟩, .string ⟨#[]⟩]) rfl (Rq.mk (r.k) 0 (r.fd) 0 (r.sz) ⟨#[]⟩ ⟨#[]⟩ ⟨#[]⟩))
    obtain ⟨W3, hW3⟩ : ∃ W3, ((((((((wn.setCell ⟨Z, 0, none⟩ (.int .u8 (r.k : Int))).setCell ⟨Z, 1, none⟩ (.int .u8 0)).setCell ⟨Z, 2, none⟩ (.int .u64 (r.fd : Int))).setCell ⟨Z, 3, none⟩ (.int .u64 0)).setCell ⟨Z, 4, none⟩ (.int .u64 (r.sz : Int))).setCell ⟨Z, 5, none⟩ (.string ⟨#[]⟩)).setCell ⟨Z, 6, none⟩ (.string ⟨#[]⟩)).setCell ⟨Z, 7, none⟩ (.string ⟨#[]⟩)) = W3 := ⟨_, rfl⟩
    rw [hW3] at hF
    clear hO
    go_wp2
    try rw [hW3]
    clear hW3 z0 z0z y0 z1 z1z y1 z2 z2z y2 z3 z3z y3 z4 z4z y4 z5 z5z y5 z6 z6z y6 z7 z7z y7
    have x0 := (own_cellB hF.out 1 rfl 0 (u := .int .u8 (r.k : Int)) rfl).1
    have x1 := (own_cellB hF.out 1 rfl 1 (u := .int .u8 0) rfl).1
    have x2 := (own_cellB hF.out 1 rfl 2 (u := .int .u64 (r.fd : Int)) rfl).1
    have x3 := (own_cellB hF.out 1 rfl 3 (u := .int .u64 0) rfl).1
    have x4 := (own_cellB hF.out 1 rfl 4 (u := .int .u64 (r.sz : Int)) rfl).1
    have x5 := (own_cellB hF.out 1 rfl 5 (u := .string ⟨#[]⟩) rfl).1
    have x6 := (own_cellB hF.out 1 rfl 6 (u := .string ⟨#[]⟩) rfl).1
    have x7 := (own_cellB hF.out 1 rfl 7 (u := .string ⟨#[]⟩) rfl).1
    exact bodyPost_ret (v := .tuple #[.agg #[.int .u8 (r.k : Int), .int .u8 0, .int .u64 (r.fd : Int), .int .u64 0, .int .u64 (r.sz : Int), .string ⟨#[]⟩, .string ⟨#[]⟩, .string ⟨#[]⟩], .bool true]) (by simp [results, Try.results32, go_sem, x0, x1, x2, x3, x4, x5, x6, x7]) rfl ⟨by rw [HQ.out, HI.out]; rfl, hF.out.grown⟩
  · have HQ : Hid (onlyQ r = { zeroRq with k := r.k, fd := r.fd, d := r.d }) := Lib.hid (by unfold onlyQ; rw [hk]; rfl)
    have HI : Hid (isKind r.k = true) := Lib.hid (by rw [hk]; rfl)
    have q1 : ((r.k : Int) == 1) = false := by rw [hk]; rfl
    have q2 : ((r.k : Int) == 2) = false := by rw [hk]; rfl
    have q3 : ((r.k : Int) == 3) = false := by rw [hk]; rfl
    have q4 : ((r.k : Int) == 4) = true := by rw [hk]; rfl
    have q5 : ((r.k : Int) == 5) = false := by rw [hk]; rfl
    have q6 : ((r.k : Int) == 6) = false := by rw [hk]; rfl
    have q7 : ((r.k : Int) == 7) = false := by rw [hk]; rfl
    have q8 : ((r.k : Int) == 8) = false := by rw [hk]; rfl
    have q9 : ((r.k : Int) == 9) = false := by rw [hk]; rfl
    have q11 : ((r.k : Int) == 11) = false := by rw [hk]; rfl
    have q10 : ((r.k : Int) == 10) = false := by rw [hk]; rfl
    have q12 : ((r.k : Int) == 12) = false := by rw [hk]; rfl
    have q13 : ((r.k : Int) == 13) = false := by rw [hk]; rfl
    clear hk
    have g0 := (own_cellB hO.out 0 rfl 2 (u := .int .u64 (r.fd : Int)) rfl).1
    obtain ⟨y0, yz0⟩ := own_cellB hO.out 2 rfl 2 (u := .int .u64 0) rfl
    have hOn := own_put hO.out 2 rfl 2 (.int .u64 (r.fd : Int))
    go_upto_region 14 with fail
    generalize World.setCell _ _ _ = wn at hOn ⊢
    replace hO : Hid (Grommet.Own w wn [boxP G 24 r.cs, boxP Z 24 #[.int .u8 0, .int .u8 0, .int .u64 0, .int .u64 0, .int .u64 0, .string ⟨#[]⟩, .string ⟨#[]⟩, .string ⟨#[]⟩], boxP Y 24 #[.int .u8 (r.k : Int), .int .u8 0, .int .u64 (r.fd : Int), .int .u64 0, .int .u64 0, .string ⟨#[]⟩, .string ⟨#[]⟩, .string ⟨#[]⟩]]) := Lib.hid hOn
    clear hOn g0 y0 yz0 c0 k0
    have g1 := (own_cellB hO.out 0 rfl 7 (u := .string r.d) rfl).1
    obtain ⟨y1, yz1⟩ := own_cellB hO.out 2 rfl 7 (u := .string ⟨#[]⟩) rfl
    have hOn := own_put hO.out 2 rfl 7 (.string r.d)
    go_upto_region 31 with fail
    generalize World.setCell _ _ _ = wn at hOn ⊢
    replace hO : Hid (Grommet.Own w wn [boxP G 24 r.cs, boxP Z 24 #[.int .u8 0, .int .u8 0, .int .u64 0, .int .u64 0, .int .u64 0, .string ⟨#[]⟩, .string ⟨#[]⟩, .string ⟨#[]⟩], boxP Y 24 #[.int .u8 (r.k : Int), .int .u8 0, .int .u64 (r.fd : Int), .int .u64 0, .int .u64 0, .string ⟨#[]⟩, .string ⟨#[]⟩, .string r.d]]) := Lib.hid hOn
    clear hOn g1 y1 yz1
    have y0 := (own_cellB hO.out 2 rfl 0 (u := .int .u8 (r.k : Int)) rfl).1
    have y1 := (own_cellB hO.out 2 rfl 1 (u := .int .u8 0) rfl).1
    have y2 := (own_cellB hO.out 2 rfl 2 (u := .int .u64 (r.fd : Int)) rfl).1
    have y3 := (own_cellB hO.out 2 rfl 3 (u := .int .u64 0) rfl).1
    have y4 := (own_cellB hO.out 2 rfl 4 (u := .int .u64 0) rfl).1
    have y5 := (own_cellB hO.out 2 rfl 5 (u := .string ⟨#[]⟩) rfl).1
    have y6 := (own_cellB hO.out 2 rfl 6 (u := .string ⟨#[]⟩) rfl).1
    have y7 := (own_cellB hO.out 2 rfl 7 (u := .string r.d) rfl).1
    obtain ⟨z0, z0z⟩ := own_cellB hO.out 1 rfl 0 (u := .int .u8 0) rfl
    obtain ⟨z1, z1z⟩ := own_cellB hO.out 1 rfl 1 (u := .int .u8 0) rfl
    obtain ⟨z2, z2z⟩ := own_cellB hO.out 1 rfl 2 (u := .int .u64 0) rfl
    obtain ⟨z3, z3z⟩ := own_cellB hO.out 1 rfl 3 (u := .int .u64 0) rfl
    obtain ⟨z4, z4z⟩ := own_cellB hO.out 1 rfl 4 (u := .int .u64 0) rfl
    obtain ⟨z5, z5z⟩ := own_cellB hO.out 1 rfl 5 (u := .string ⟨#[]⟩) rfl
    obtain ⟨z6, z6z⟩ := own_cellB hO.out 1 rfl 6 (u := .string ⟨#[]⟩) rfl
    obtain ⟨z7, z7z⟩ := own_cellB hO.out 1 rfl 7 (u := .string ⟨#[]⟩) rfl
    have hF : Hid (Grommet.Own w ((((((((wn.setCell ⟨Z, 0, none⟩ (.int .u8 (r.k : Int))).setCell ⟨Z, 1, none⟩ (.int .u8 0)).setCell ⟨Z, 2, none⟩ (.int .u64 (r.fd : Int))).setCell ⟨Z, 3, none⟩ (.int .u64 0)).setCell ⟨Z, 4, none⟩ (.int .u64 0)).setCell ⟨Z, 5, none⟩ (.string ⟨#[]⟩)).setCell ⟨Z, 6, none⟩ (.string ⟨#[]⟩)).setCell ⟨Z, 7, none⟩ (.string r.d)) [boxP G 24 r.cs, boxP Z 24 (Rq.mk (r.k) 0 (r.fd) 0 0 ⟨#[]⟩ ⟨#[]⟩ r.d).cs, boxP Y 24 #[.int .u8 (r.k : Int), .int .u8 0, .int .u64 (r.fd : Int), .int .u64 0, .int .u64 0, .string ⟨#[]⟩, .string ⟨#[]⟩, .string r.d]]) := Lib.hid (own_fill hO.out 1 rfl (cs := #[.int .u8 0, .int .u8 0, .int .u64 0, .int .u64 0, .int .u64 0, .string ⟨#[]⟩, .string ⟨#[]⟩, .string ⟨#[]⟩]) rfl (Rq.mk (r.k) 0 (r.fd) 0 0 ⟨#[]⟩ ⟨#[]⟩ r.d))
    obtain ⟨W3, hW3⟩ : ∃ W3, ((((((((wn.setCell ⟨Z, 0, none⟩ (.int .u8 (r.k : Int))).setCell ⟨Z, 1, none⟩ (.int .u8 0)).setCell ⟨Z, 2, none⟩ (.int .u64 (r.fd : Int))).setCell ⟨Z, 3, none⟩ (.int .u64 0)).setCell ⟨Z, 4, none⟩ (.int .u64 0)).setCell ⟨Z, 5, none⟩ (.string ⟨#[]⟩)).setCell ⟨Z, 6, none⟩ (.string ⟨#[]⟩)).setCell ⟨Z, 7, none⟩ (.string r.d)) = W3 := ⟨_, rfl⟩
    rw [hW3] at hF
    clear hO
    go_wp2
    try rw [hW3]
    clear hW3 z0 z0z y0 z1 z1z y1 z2 z2z y2 z3 z3z y3 z4 z4z y4 z5 z5z y5 z6 z6z y6 z7 z7z y7
    have x0 := (own_cellB hF.out 1 rfl 0 (u := .int .u8 (r.k : Int)) rfl).1
    have x1 := (own_cellB hF.out 1 rfl 1 (u := .int .u8 0) rfl).1
    have x2 := (own_cellB hF.out 1 rfl 2 (u := .int .u64 (r.fd : Int)) rfl).1
    have x3 := (own_cellB hF.out 1 rfl 3 (u := .int .u64 0) rfl).1
    have x4 := (own_cellB hF.out 1 rfl 4 (u := .int .u64 0) rfl).1
    have x5 := (own_cellB hF.out 1 rfl 5 (u := .string ⟨#[]⟩) rfl).1
    have x6 := (own_cellB hF.out 1 rfl 6 (u := .string ⟨#[]⟩) rfl).1
    have x7 := (own_cellB hF.out 1 rfl 7 (u := .string r.d) rfl).1
    exact bodyPost_ret (v := .tuple #[.agg #[.int .u8 (r.k : Int), .int .u8 0, .int .u64 (r.fd : Int), .int .u64 0, .int .u64 0, .string ⟨#[]⟩, .string ⟨#[]⟩, .string r.d], .bool true]) (by simp [results, Try.results32, go_sem, x0, x1, x2, x3, x4, x5, x6, x7]) rfl ⟨by rw [HQ.out, HI.out]; rfl, hF.out.grown⟩
  · have HQ : Hid (onlyQ r = { zeroRq with k := r.k, fd := r.fd, at_ := r.at_ }) := Lib.hid (by unfold onlyQ; rw [hk]; rfl)
    have HI : Hid (isKind r.k = true) := Lib.hid (by rw [hk]; rfl)
    have q1 : ((r.k : Int) == 1) = false := by rw [hk]; rfl
    have q2 : ((r.k : Int) == 2) = false := by rw [hk]; rfl
    have q3 : ((r.k : Int) == 3) = false := by rw [hk]; rfl
    have q4 : ((r.k : Int) == 4) = false := by rw [hk]; rfl
    have q5 : ((r.k : Int) == 5) = true := by rw [hk]; rfl
    have q6 : ((r.k : Int) == 6) = false := by rw [hk]; rfl
    have q7 : ((r.k : Int) == 7) = false := by rw [hk]; rfl
    have q8 : ((r.k : Int) == 8) = false := by rw [hk]; rfl
    have q9 : ((r.k : Int) == 9) = false := by rw [hk]; rfl
    have q11 : ((r.k : Int) == 11) = false := by rw [hk]; rfl
    have q10 : ((r.k : Int) == 10) = false := by rw [hk]; rfl
    have q12 : ((r.k : Int) == 12) = false := by rw [hk]; rfl
    have q13 : ((r.k : Int) == 13) = false := by rw [hk]; rfl
    clear hk
    have g0 := (own_cellB hO.out 0 rfl 2 (u := .int .u64 (r.fd : Int)) rfl).1
    obtain ⟨y0, yz0⟩ := own_cellB hO.out 2 rfl 2 (u := .int .u64 0) rfl
    have hOn := own_put hO.out 2 rfl 2 (.int .u64 (r.fd : Int))
    go_upto_region 18 with fail
    generalize World.setCell _ _ _ = wn at hOn ⊢
    replace hO : Hid (Grommet.Own w wn [boxP G 24 r.cs, boxP Z 24 #[.int .u8 0, .int .u8 0, .int .u64 0, .int .u64 0, .int .u64 0, .string ⟨#[]⟩, .string ⟨#[]⟩, .string ⟨#[]⟩], boxP Y 24 #[.int .u8 (r.k : Int), .int .u8 0, .int .u64 (r.fd : Int), .int .u64 0, .int .u64 0, .string ⟨#[]⟩, .string ⟨#[]⟩, .string ⟨#[]⟩]]) := Lib.hid hOn
    clear hOn g0 y0 yz0 c0 k0
    have g1 := (own_cellB hO.out 0 rfl 3 (u := .int .u64 (r.at_ : Int)) rfl).1
    obtain ⟨y1, yz1⟩ := own_cellB hO.out 2 rfl 3 (u := .int .u64 0) rfl
    have hOn := own_put hO.out 2 rfl 3 (.int .u64 (r.at_ : Int))
    go_upto_region 31 with fail
    generalize World.setCell _ _ _ = wn at hOn ⊢
    replace hO : Hid (Grommet.Own w wn [boxP G 24 r.cs, boxP Z 24 #[.int .u8 0, .int .u8 0, .int .u64 0, .int .u64 0, .int .u64 0, .string ⟨#[]⟩, .string ⟨#[]⟩, .string ⟨#[]⟩], boxP Y 24 #[.int .u8 (r.k : Int), .int .u8 0, .int .u64 (r.fd : Int), .int .u64 (r.at_ : Int), .int .u64 0, .string ⟨#[]⟩, .string ⟨#[]⟩, .string ⟨#[]⟩]]) := Lib.hid hOn
    clear hOn g1 y1 yz1
    have y0 := (own_cellB hO.out 2 rfl 0 (u := .int .u8 (r.k : Int)) rfl).1
    have y1 := (own_cellB hO.out 2 rfl 1 (u := .int .u8 0) rfl).1
    have y2 := (own_cellB hO.out 2 rfl 2 (u := .int .u64 (r.fd : Int)) rfl).1
    have y3 := (own_cellB hO.out 2 rfl 3 (u := .int .u64 (r.at_ : Int)) rfl).1
    have y4 := (own_cellB hO.out 2 rfl 4 (u := .int .u64 0) rfl).1
    have y5 := (own_cellB hO.out 2 rfl 5 (u := .string ⟨#[]⟩) rfl).1
    have y6 := (own_cellB hO.out 2 rfl 6 (u := .string ⟨#[]⟩) rfl).1
    have y7 := (own_cellB hO.out 2 rfl 7 (u := .string ⟨#[]⟩) rfl).1
    obtain ⟨z0, z0z⟩ := own_cellB hO.out 1 rfl 0 (u := .int .u8 0) rfl
    obtain ⟨z1, z1z⟩ := own_cellB hO.out 1 rfl 1 (u := .int .u8 0) rfl
    obtain ⟨z2, z2z⟩ := own_cellB hO.out 1 rfl 2 (u := .int .u64 0) rfl
    obtain ⟨z3, z3z⟩ := own_cellB hO.out 1 rfl 3 (u := .int .u64 0) rfl
    obtain ⟨z4, z4z⟩ := own_cellB hO.out 1 rfl 4 (u := .int .u64 0) rfl
    obtain ⟨z5, z5z⟩ := own_cellB hO.out 1 rfl 5 (u := .string ⟨#[]⟩) rfl
    obtain ⟨z6, z6z⟩ := own_cellB hO.out 1 rfl 6 (u := .string ⟨#[]⟩) rfl
    obtain ⟨z7, z7z⟩ := own_cellB hO.out 1 rfl 7 (u := .string ⟨#[]⟩) rfl
    have hF : Hid (Grommet.Own w ((((((((wn.setCell ⟨Z, 0, none⟩ (.int .u8 (r.k : Int))).setCell ⟨Z, 1, none⟩ (.int .u8 0)).setCell ⟨Z, 2, none⟩ (.int .u64 (r.fd : Int))).setCell ⟨Z, 3, none⟩ (.int .u64 (r.at_ : Int))).setCell ⟨Z, 4, none⟩ (.int .u64 0)).setCell ⟨Z, 5, none⟩ (.string ⟨#[]⟩)).setCell ⟨Z, 6, none⟩ (.string ⟨#[]⟩)).setCell ⟨Z, 7, none⟩ (.string ⟨#[]⟩)) [boxP G 24 r.cs, boxP Z 24 (Rq.mk (r.k) 0 (r.fd) (r.at_) 0 ⟨#[]⟩ ⟨#[]⟩ ⟨#[]⟩).cs, boxP Y 24 #[.int .u8 (r.k : Int), .int .u8 0, .int .u64 (r.fd : Int), .int .u64 (r.at_ : Int), .int .u64 0, .string ⟨#[]⟩, .string ⟨#[]⟩, .string ⟨#[]⟩]]) := Lib.hid (own_fill hO.out 1 rfl (cs := #[.int .u8 0, .int .u8 0, .int .u64 0, .int .u64 0, .int .u64 0, .string ⟨#[]⟩, .string ⟨#[]⟩, .string ⟨#[]⟩]) rfl (Rq.mk (r.k) 0 (r.fd) (r.at_) 0 ⟨#[]⟩ ⟨#[]⟩ ⟨#[]⟩))
    obtain ⟨W3, hW3⟩ : ∃ W3, ((((((((wn.setCell ⟨Z, 0, none⟩ (.int .u8 (r.k : Int))).setCell ⟨Z, 1, none⟩ (.int .u8 0)).setCell ⟨Z, 2, none⟩ (.int .u64 (r.fd : Int))).setCell ⟨Z, 3, none⟩ (.int .u64 (r.at_ : Int))).setCell ⟨Z, 4, none⟩ (.int .u64 0)).setCell ⟨Z, 5, none⟩ (.string ⟨#[]⟩)).setCell ⟨Z, 6, none⟩ (.string ⟨#[]⟩)).setCell ⟨Z, 7, none⟩ (.string ⟨#[]⟩)) = W3 := ⟨_, rfl⟩
    rw [hW3] at hF
    clear hO
    go_wp2
    try rw [hW3]
    clear hW3 z0 z0z y0 z1 z1z y1 z2 z2z y2 z3 z3z y3 z4 z4z y4 z5 z5z y5 z6 z6z y6 z7 z7z y7
    have x0 := (own_cellB hF.out 1 rfl 0 (u := .int .u8 (r.k : Int)) rfl).1
    have x1 := (own_cellB hF.out 1 rfl 1 (u := .int .u8 0) rfl).1
    have x2 := (own_cellB hF.out 1 rfl 2 (u := .int .u64 (r.fd : Int)) rfl).1
    have x3 := (own_cellB hF.out 1 rfl 3 (u := .int .u64 (r.at_ : Int)) rfl).1
    have x4 := (own_cellB hF.out 1 rfl 4 (u := .int .u64 0) rfl).1
    have x5 := (own_cellB hF.out 1 rfl 5 (u := .string ⟨#[]⟩) rfl).1
    have x6 := (own_cellB hF.out 1 rfl 6 (u := .string ⟨#[]⟩) rfl).1
    have x7 := (own_cellB hF.out 1 rfl 7 (u := .string ⟨#[]⟩) rfl).1
    exact bodyPost_ret (v := .tuple #[.agg #[.int .u8 (r.k : Int), .int .u8 0, .int .u64 (r.fd : Int), .int .u64 (r.at_ : Int), .int .u64 0, .string ⟨#[]⟩, .string ⟨#[]⟩, .string ⟨#[]⟩], .bool true]) (by simp [results, Try.results32, go_sem, x0, x1, x2, x3, x4, x5, x6, x7]) rfl ⟨by rw [HQ.out, HI.out]; rfl, hF.out.grown⟩
  · have HQ : Hid (onlyQ r = { zeroRq with k := r.k, fd := r.fd, at_ := r.at_ }) := Lib.hid (by unfold onlyQ; rw [hk]; rfl)
    have HI : Hid (isKind r.k = true) := Lib.hid (by rw [hk]; rfl)
    have q1 : ((r.k : Int) == 1) = false := by rw [hk]; rfl
    have q2 : ((r.k : Int) == 2) = false := by rw [hk]; rfl
    have q3 : ((r.k : Int) == 3) = false := by rw [hk]; rfl
    have q4 : ((r.k : Int) == 4) = false := by rw [hk]; rfl
    have q5 : ((r.k : Int) == 5) = false := by rw [hk]; rfl
    have q6 : ((r.k : Int) == 6) = true := by rw [hk]; rfl
    have q7 : ((r.k : Int) == 7) = false := by rw [hk]; rfl
    have q8 : ((r.k : Int) == 8) = false := by rw [hk]; rfl
    have q9 : ((r.k : Int) == 9) = false := by rw [hk]; rfl
    have q11 : ((r.k : Int) == 11) = false := by rw [hk]; rfl
    have q10 : ((r.k : Int) == 10) = false := by rw [hk]; rfl
    have q12 : ((r.k : Int) == 12) = false := by rw [hk]; rfl
    have q13 : ((r.k : Int) == 13) = false := by rw [hk]; rfl
    clear hk
    have g0 := (own_cellB hO.out 0 rfl 2 (u := .int .u64 (r.fd : Int)) rfl).1
    obtain ⟨y0, yz0⟩ := own_cellB hO.out 2 rfl 2 (u := .int .u64 0) rfl
    have hOn := own_put hO.out 2 rfl 2 (.int .u64 (r.fd : Int))
    go_upto_region 18 with fail
    generalize World.setCell _ _ _ = wn at hOn ⊢
    replace hO : Hid (Grommet.Own w wn [boxP G 24 r.cs, boxP Z 24 #[.int .u8 0, .int .u8 0, .int .u64 0, .int .u64 0, .int .u64 0, .string ⟨#[]⟩, .string ⟨#[]⟩, .string ⟨#[]⟩], boxP Y 24 #[.int .u8 (r.k : Int), .int .u8 0, .int .u64 (r.fd : Int), .int .u64 0, .int .u64 0, .string ⟨#[]⟩, .string ⟨#[]⟩, .string ⟨#[]⟩]]) := Lib.hid hOn
    clear hOn g0 y0 yz0 c0 k0
    have g1 := (own_cellB hO.out 0 rfl 3 (u := .int .u64 (r.at_ : Int)) rfl).1
    obtain ⟨y1, yz1⟩ := own_cellB hO.out 2 rfl 3 (u := .int .u64 0) rfl
    have hOn := own_put hO.out 2 rfl 3 (.int .u64 (r.at_ : Int))
    go_upto_region 31 with fail
    generalize World.setCell _ _ _ = wn at hOn ⊢
    replace hO : Hid (Grommet.Own w wn [boxP G 24 r.cs, boxP Z 24 #[.int .u8 0, .int .u8 0, .int .u64 0, .int .u64 0, .int .u64 0, .string ⟨#[]⟩, .string ⟨#[]⟩, .string ⟨#[]⟩], boxP Y 24 #[.int .u8 (r.k : Int), .int .u8 0, .int .u64 (r.fd : Int), .int .u64 (r.at_ : Int), .int .u64 0, .string ⟨#[]⟩, .string ⟨#[]⟩, .string ⟨#[]⟩]]) := Lib.hid hOn
    clear hOn g1 y1 yz1
    have y0 := (own_cellB hO.out 2 rfl 0 (u := .int .u8 (r.k : Int)) rfl).1
    have y1 := (own_cellB hO.out 2 rfl 1 (u := .int .u8 0) rfl).1
    have y2 := (own_cellB hO.out 2 rfl 2 (u := .int .u64 (r.fd : Int)) rfl).1
    have y3 := (own_cellB hO.out 2 rfl 3 (u := .int .u64 (r.at_ : Int)) rfl).1
    have y4 := (own_cellB hO.out 2 rfl 4 (u := .int .u64 0) rfl).1
    have y5 := (own_cellB hO.out 2 rfl 5 (u := .string ⟨#[]⟩) rfl).1
    have y6 := (own_cellB hO.out 2 rfl 6 (u := .string ⟨#[]⟩) rfl).1
    have y7 := (own_cellB hO.out 2 rfl 7 (u := .string ⟨#[]⟩) rfl).1
    obtain ⟨z0, z0z⟩ := own_cellB hO.out 1 rfl 0 (u := .int .u8 0) rfl
    obtain ⟨z1, z1z⟩ := own_cellB hO.out 1 rfl 1 (u := .int .u8 0) rfl
    obtain ⟨z2, z2z⟩ := own_cellB hO.out 1 rfl 2 (u := .int .u64 0) rfl
    obtain ⟨z3, z3z⟩ := own_cellB hO.out 1 rfl 3 (u := .int .u64 0) rfl
    obtain ⟨z4, z4z⟩ := own_cellB hO.out 1 rfl 4 (u := .int .u64 0) rfl
    obtain ⟨z5, z5z⟩ := own_cellB hO.out 1 rfl 5 (u := .string ⟨#[]⟩) rfl
    obtain ⟨z6, z6z⟩ := own_cellB hO.out 1 rfl 6 (u := .string ⟨#[]⟩) rfl
    obtain ⟨z7, z7z⟩ := own_cellB hO.out 1 rfl 7 (u := .string ⟨#[]⟩) rfl
    have hF : Hid (Grommet.Own w ((((((((wn.setCell ⟨Z, 0, none⟩ (.int .u8 (r.k : Int))).setCell ⟨Z, 1, none⟩ (.int .u8 0)).setCell ⟨Z, 2, none⟩ (.int .u64 (r.fd : Int))).setCell ⟨Z, 3, none⟩ (.int .u64 (r.at_ : Int))).setCell ⟨Z, 4, none⟩ (.int .u64 0)).setCell ⟨Z, 5, none⟩ (.string ⟨#[]⟩)).setCell ⟨Z, 6, none⟩ (.string ⟨#[]⟩)).setCell ⟨Z, 7, none⟩ (.string ⟨#[]⟩)) [boxP G 24 r.cs, boxP Z 24 (Rq.mk (r.k) 0 (r.fd) (r.at_) 0 ⟨#[]⟩ ⟨#[]⟩ ⟨#[]⟩).cs, boxP Y 24 #[.int .u8 (r.k : Int), .int .u8 0, .int .u64 (r.fd : Int), .int .u64 (r.at_ : Int), .int .u64 0, .string ⟨#[]⟩, .string ⟨#[]⟩, .string ⟨#[]⟩]]) := Lib.hid (own_fill hO.out 1 rfl (cs := #[.int .u8 0, .int .u8 0, .int .u64 0, .int .u64 0, .int .u64 0, .string ⟨#[]⟩, .string ⟨#[]⟩, .string ⟨#[]⟩]) rfl (Rq.mk (r.k) 0 (r.fd) (r.at_) 0 ⟨#[]⟩ ⟨#[]⟩ ⟨#[]⟩))
    obtain ⟨W3, hW3⟩ : ∃ W3, ((((((((wn.setCell ⟨Z, 0, none⟩ (.int .u8 (r.k : Int))).setCell ⟨Z, 1, none⟩ (.int .u8 0)).setCell ⟨Z, 2, none⟩ (.int .u64 (r.fd : Int))).setCell ⟨Z, 3, none⟩ (.int .u64 (r.at_ : Int))).setCell ⟨Z, 4, none⟩ (.int .u64 0)).setCell ⟨Z, 5, none⟩ (.string ⟨#[]⟩)).setCell ⟨Z, 6, none⟩ (.string ⟨#[]⟩)).setCell ⟨Z, 7, none⟩ (.string ⟨#[]⟩)) = W3 := ⟨_, rfl⟩
    rw [hW3] at hF
    clear hO
    go_wp2
    try rw [hW3]
    clear hW3 z0 z0z y0 z1 z1z y1 z2 z2z y2 z3 z3z y3 z4 z4z y4 z5 z5z y5 z6 z6z y6 z7 z7z y7
    have x0 := (own_cellB hF.out 1 rfl 0 (u := .int .u8 (r.k : Int)) rfl).1
    have x1 := (own_cellB hF.out 1 rfl 1 (u := .int .u8 0) rfl).1
    have x2 := (own_cellB hF.out 1 rfl 2 (u := .int .u64 (r.fd : Int)) rfl).1
    have x3 := (own_cellB hF.out 1 rfl 3 (u := .int .u64 (r.at_ : Int)) rfl).1
    have x4 := (own_cellB hF.out 1 rfl 4 (u := .int .u64 0) rfl).1
    have x5 := (own_cellB hF.out 1 rfl 5 (u := .string ⟨#[]⟩) rfl).1
    have x6 := (own_cellB hF.out 1 rfl 6 (u := .string ⟨#[]⟩) rfl).1
    have x7 := (own_cellB hF.out 1 rfl 7 (u := .string ⟨#[]⟩) rfl).1
    exact bodyPost_ret (v := .tuple #[.agg #[.int .u8 (r.k : Int), .int .u8 0, .int .u64 (r.fd : Int), .int .u64 (r.at_ : Int), .int .u64 0, .string ⟨#[]⟩, .string ⟨#[]⟩, .string ⟨#[]⟩], .bool true]) (by simp [results, Try.results32, go_sem, x0, x1, x2, x3, x4, x5, x6, x7]) rfl ⟨by rw [HQ.out, HI.out]; rfl, hF.out.grown⟩
  · have HQ : Hid (onlyQ r = { zeroRq with k := r.k, p := r.p }) := Lib.hid (by unfold onlyQ; rw [hk]; rfl)
    have HI : Hid (isKind r.k = true) := Lib.hid (by rw [hk]; rfl)
    have q1 : ((r.k : Int) == 1) = false := by rw [hk]; rfl
    have q2 : ((r.k : Int) == 2) = false := by rw [hk]; rfl
    have q3 : ((r.k : Int) == 3) = false := by rw [hk]; rfl
    have q4 : ((r.k : Int) == 4) = false := by rw [hk]; rfl
    have q5 : ((r.k : Int) == 5) = false := by rw [hk]; rfl
    have q6 : ((r.k : Int) == 6) = false := by rw [hk]; rfl
    have q7 : ((r.k : Int) == 7) = true := by rw [hk]; rfl
    have q8 : ((r.k : Int) == 8) = false := by rw [hk]; rfl
    have q9 : ((r.k : Int) == 9) = false := by rw [hk]; rfl
    have q11 : ((r.k : Int) == 11) = false := by rw [hk]; rfl
    have q10 : ((r.k : Int) == 10) = false := by rw [hk]; rfl
    have q12 : ((r.k : Int) == 12) = false := by rw [hk]; rfl
    have q13 : ((r.k : Int) == 13) = false := by rw [hk]; rfl
    clear hk
    have g0 := (own_cellB hO.out 0 rfl 5 (u := .string r.p) rfl).1
    obtain ⟨y0, yz0⟩ := own_cellB hO.out 2 rfl 5 (u := .string ⟨#[]⟩) rfl
    have hOn := own_put hO.out 2 rfl 5 (.string r.p)
    go_upto_region 31 with fail
    generalize World.setCell _ _ _ = wn at hOn ⊢
    replace hO : Hid (Grommet.Own w wn [boxP G 24 r.cs, boxP Z 24 #[.int .u8 0, .int .u8 0, .int .u64 0, .int .u64 0, .int .u64 0, .string ⟨#[]⟩, .string ⟨#[]⟩, .string ⟨#[]⟩], boxP Y 24 #[.int .u8 (r.k : Int), .int .u8 0, .int .u64 0, .int .u64 0, .int .u64 0, .string r.p, .string ⟨#[]⟩, .string ⟨#[]⟩]]) := Lib.hid hOn
    clear hOn g0 y0 yz0 c0 k0
    have y0 := (own_cellB hO.out 2 rfl 0 (u := .int .u8 (r.k : Int)) rfl).1
    have y1 := (own_cellB hO.out 2 rfl 1 (u := .int .u8 0) rfl).1
    have y2 := (own_cellB hO.out 2 rfl 2 (u := .int .u64 0) rfl).1
    have y3 := (own_cellB hO.out 2 rfl 3 (u := .int .u64 0) rfl).1
    have y4 := (own_cellB hO.out 2 rfl 4 (u := .int .u64 0) rfl).1
    have y5 := (own_cellB hO.out 2 rfl 5 (u := .string r.p) rfl).1
    have y6 := (own_cellB hO.out 2 rfl 6 (u := .string ⟨#[]⟩) rfl).1
    have y7 := (own_cellB hO.out 2 rfl 7 (u := .string ⟨#[]⟩) rfl).1
    obtain ⟨z0, z0z⟩ := own_cellB hO.out 1 rfl 0 (u := .int .u8 0) rfl
    obtain ⟨z1, z1z⟩ := own_cellB hO.out 1 rfl 1 (u := .int .u8 0) rfl
    obtain ⟨z2, z2z⟩ := own_cellB hO.out 1 rfl 2 (u := .int .u64 0) rfl
    obtain ⟨z3, z3z⟩ := own_cellB hO.out 1 rfl 3 (u := .int .u64 0) rfl
    obtain ⟨z4, z4z⟩ := own_cellB hO.out 1 rfl 4 (u := .int .u64 0) rfl
    obtain ⟨z5, z5z⟩ := own_cellB hO.out 1 rfl 5 (u := .string ⟨#[]⟩) rfl
    obtain ⟨z6, z6z⟩ := own_cellB hO.out 1 rfl 6 (u := .string ⟨#[]⟩) rfl
    obtain ⟨z7, z7z⟩ := own_cellB hO.out 1 rfl 7 (u := .string ⟨#[]⟩) rfl
    have hF : Hid (Grommet.Own w ((((((((wn.setCell ⟨Z, 0, none⟩ (.int .u8 (r.k : Int))).setCell ⟨Z, 1, none⟩ (.int .u8 0)).setCell ⟨Z, 2, none⟩ (.int .u64 0)).setCell ⟨Z, 3, none⟩ (.int .u64 0)).setCell ⟨Z, 4, none⟩ (.int .u64 0)).setCell ⟨Z, 5, none⟩ (.string r.p)).setCell ⟨Z, 6, none⟩ (.string ⟨#[]⟩)).setCell ⟨Z, 7, none⟩ (.string ⟨#[]⟩)) [boxP G 24 r.cs, boxP Z 24 (Rq.mk (r.k) 0 0 0 0 r.p ⟨#[]⟩ ⟨#[]⟩).cs, boxP Y 24 #[.int .u8 (r.k : Int), .int .u8 0, .int .u64 0, .int .u64 0, .int .u64 0, .string r.p, .string ⟨#[]⟩, .string ⟨#[]⟩]]) := Lib.hid (own_fill hO.out 1 rfl (cs := #[.int .u8 0, .int .u8 0, .int .u64 0, .int .u64 0, .int .u64 0, .string ⟨#[]⟩, .string ⟨#[]⟩, .string ⟨#[]⟩]) rfl (Rq.mk (r.k) 0 0 0 0 r.p ⟨#[]⟩ ⟨#[]⟩))
    obtain ⟨W3, hW3⟩ : ∃ W3, ((((((((wn.setCell ⟨Z, 0, none⟩ (.int .u8 (r.k : Int))).setCell ⟨Z, 1, none⟩ (.int .u8 0)).setCell ⟨Z, 2, none⟩ (.int .u64 0)).setCell ⟨Z, 3, none⟩ (.int .u64 0)).setCell ⟨Z, 4, none⟩ (.int .u64 0)).setCell ⟨Z, 5, none⟩ (.string r.p)).setCell ⟨Z, 6, none⟩ (.string ⟨#[]⟩)).setCell ⟨Z, 7, none⟩ (.string ⟨#[]⟩)) = W3 := ⟨_, rfl⟩
    rw [hW3] at hF
    clear hO
    go_wp2
    try rw [hW3]
    clear hW3 z0 z0z y0 z1 z1z y1 z2 z2z y2 z3 z3z y3 z4 z4z y4 z5 z5z y5 z6 z6z y6 z7 z7z y7
    have x0 := (own_cellB hF.out 1 rfl 0 (u := .int .u8 (r.k : Int)) rfl).1
    have x1 := (own_cellB hF.out 1 rfl 1 (u := .int .u8 0) rfl).1
    have x2 := (own_cellB hF.out 1 rfl 2 (u := .int .u64 0) rfl).1
    have x3 := (own_cellB hF.out 1 rfl 3 (u := .int .u64 0) rfl).1
    have x4 := (own_cellB hF.out 1 rfl 4 (u := .int .u64 0) rfl).1
    have x5 := (own_cellB hF.out 1 rfl 5 (u := .string r.p) rfl).1
    have x6 := (own_cellB hF.out 1 rfl 6 (u := .string ⟨#[]⟩) rfl).1
    have x7 := (own_cellB hF.out 1 rfl 7 (u := .string ⟨#[]⟩) rfl).1
    exact bodyPost_ret (v := .tuple #[.agg #[.int .u8 (r.k : Int), .int .u8 0, .int .u64 0, .int .u64 0, .int .u64 0, .string r.p, .string ⟨#[]⟩, .string ⟨#[]⟩], .bool true]) (by simp [results, Try.results32, go_sem, x0, x1, x2, x3, x4, x5, x6, x7]) rfl ⟨by rw [HQ.out, HI.out]; rfl, hF.out.grown⟩
  · have HQ : Hid (onlyQ r = { zeroRq with k := r.k, p := r.p }) := Lib.hid (by unfold onlyQ; rw [hk]; rfl)
    have HI : Hid (isKind r.k = true) := Lib.hid (by rw [hk]; rfl)
    have q1 : ((r.k : Int) == 1) = false := by rw [hk]; rfl
    have q2 : ((r.k : Int) == 2) = false := by rw [hk]; rfl
    have q3 : ((r.k : Int) == 3) = false := by rw [hk]; rfl
    have q4 : ((r.k : Int) == 4) = false := by rw [hk]; rfl
    have q5 : ((r.k : Int) == 5) = false := by rw [hk]; rfl
    have q6 : ((r.k : Int) == 6) = false := by rw [hk]; rfl
    have q7 : ((r.k : Int) == 7) = false := by rw [hk]; rfl
    have q8 : ((r.k : Int) == 8) = true := by rw [hk]; rfl
    have q9 : ((r.k : Int) == 9) = false := by rw [hk]; rfl
    have q11 : ((r.k : Int) == 11) = false := by rw [hk]; rfl
    have q10 : ((r.k : Int) == 10) = false := by rw [hk]; rfl
    have q12 : ((r.k : Int) == 12) = false := by rw [hk]; rfl
    have q13 : ((r.k : Int) == 13) = false := by rw [hk]; rfl
    clear hk
    have g0 := (own_cellB hO.out 0 rfl 5 (u := .string r.p) rfl).1
    obtain ⟨y0, yz0⟩ := own_cellB hO.out 2 rfl 5 (u := .string ⟨#[]⟩) rfl
    have hOn := own_put hO.out 2 rfl 5 (.string r.p)
    go_upto_region 31 with fail
    generalize World.setCell _ _ _ = wn at hOn ⊢
    replace hO : Hid (Grommet.Own w wn [boxP G 24 r.cs, boxP Z 24 #[.int .u8 0, .int .u8 0, .int .u64 0, .int .u64 0, .int .u64 0, .string ⟨#[]⟩, .string ⟨#[]⟩, .string ⟨#[]⟩], boxP Y 24 #[.int .u8 (r.k : Int), .int .u8 0, .int .u64 0, .int .u64 0, .int .u64 0, .string r.p, .string ⟨#[]⟩, .string ⟨#[]⟩]]) := Lib.hid hOn
    clear hOn g0 y0 yz0 c0 k0
    have y0 := (own_cellB hO.out 2 rfl 0 (u := .int .u8 (r.k : Int)) rfl).1
    have y1 := (own_cellB hO.out 2 rfl 1 (u := .int .u8 0) rfl).1
    have y2 := (own_cellB hO.out 2 rfl 2 (u := .int .u64 0) rfl).1
    have y3 := (own_cellB hO.out 2 rfl 3 (u := .int .u64 0) rfl).1
    have y4 := (own_cellB hO.out 2 rfl 4 (u := .int .u64 0) rfl).1
    have y5 := (own_cellB hO.out 2 rfl 5 (u := .string r.p) rfl).1
    have y6 := (own_cellB hO.out 2 rfl 6 (u := .string ⟨#[]⟩) rfl).1
    have y7 := (own_cellB hO.out 2 rfl 7 (u := .string ⟨#[]⟩) rfl).1
    obtain ⟨z0, z0z⟩ := own_cellB hO.out 1 rfl 0 (u := .int .u8 0) rfl
    obtain ⟨z1, z1z⟩ := own_cellB hO.out 1 rfl 1 (u := .int .u8 0) rfl
    obtain ⟨z2, z2z⟩ := own_cellB hO.out 1 rfl 2 (u := .int .u64 0) rfl
    obtain ⟨z3, z3z⟩ := own_cellB hO.out 1 rfl 3 (u := .int .u64 0) rfl
    obtain ⟨z4, z4z⟩ := own_cellB hO.out 1 rfl 4 (u := .int .u64 0) rfl
    obtain ⟨z5, z5z⟩ := own_cellB hO.out 1 rfl 5 (u := .string ⟨#[]⟩) rfl
    obtain ⟨z6, z6z⟩ := own_cellB hO.out 1 rfl 6 (u := .string ⟨#[]⟩) rfl
    obtain ⟨z7, z7z⟩ := own_cellB hO.out 1 rfl 7 (u := .string ⟨#[]⟩) rfl
    have hF : Hid (Grommet.Own w ((((((((wn.setCell ⟨Z, 0, none⟩ (.int .u8 (r.k : Int))).setCell ⟨Z, 1, none⟩ (.int .u8 0)).setCell ⟨Z, 2, none⟩ (.int .u64 0)).setCell ⟨Z, 3, none⟩ (.int .u64 0)).setCell ⟨Z, 4, none⟩ (.int .u64 0)).setCell ⟨Z, 5, none⟩ (.string r.p)).setCell ⟨Z, 6, none⟩ (.string ⟨#[]⟩)).setCell ⟨Z, 7, none⟩ (.string ⟨#[]⟩)) [boxP G 24 r.cs, boxP Z 24 (Rq.mk (r.k) 0 0 0 0 r.p ⟨#[]⟩ ⟨#[]⟩).cs, boxP Y 24 #[.int .u8 (r.k : Int), .int .u8 0, .int .u64 0, .int .u64 0, .int .u64 0, .string r.p, .string ⟨#[]⟩, .string ⟨#[]⟩]]) := Lib.hid (own_fill hO.out 1 rfl (cs := #[.int .u8 0, .int .u8 0, .int .u64 0, .int .u64 0, .int .u64 0, .string ⟨#[]⟩, .string ⟨#[]⟩, .string ⟨#[]⟩]) rfl (Rq.mk (r.k) 0 0 0 0 r.p ⟨#[]⟩ ⟨#[]⟩))
    obtain ⟨W3, hW3⟩ : ∃ W3, ((((((((wn.setCell ⟨Z, 0, none⟩ (.int .u8 (r.k : Int))).setCell ⟨Z, 1, none⟩ (.int .u8 0)).setCell ⟨Z, 2, none⟩ (.int .u64 0)).setCell ⟨Z, 3, none⟩ (.int .u64 0)).setCell ⟨Z, 4, none⟩ (.int .u64 0)).setCell ⟨Z, 5, none⟩ (.string r.p)).setCell ⟨Z, 6, none⟩ (.string ⟨#[]⟩)).setCell ⟨Z, 7, none⟩ (.string ⟨#[]⟩)) = W3 := ⟨_, rfl⟩
    rw [hW3] at hF
    clear hO
    go_wp2
    try rw [hW3]
    clear hW3 z0 z0z y0 z1 z1z y1 z2 z2z y2 z3 z3z y3 z4 z4z y4 z5 z5z y5 z6 z6z y6 z7 z7z y7
    have x0 := (own_cellB hF.out 1 rfl 0 (u := .int .u8 (r.k : Int)) rfl).1
    have x1 := (own_cellB hF.out 1 rfl 1 (u := .int .u8 0) rfl).1
    have x2 := (own_cellB hF.out 1 rfl 2 (u := .int .u64 0) rfl).1
    have x3 := (own_cellB hF.out 1 rfl 3 (u := .int .u64 0) rfl).1
    have x4 := (own_cellB hF.out 1 rfl 4 (u := .int .u64 0) rfl).1
    have x5 := (own_cellB hF.out 1 rfl 5 (u := .string r.p) rfl).1
    have x6 := (own_cellB hF.out 1 rfl 6 (u := .string ⟨#[]⟩) rfl).1
    have x7 := (own_cellB hF.out 1 rfl 7 (u := .string ⟨#[]⟩) rfl).1
    exact bodyPost_ret (v := .tuple #[.agg #[.int .u8 (r.k : Int), .int .u8 0, .int .u64 0, .int .u64 0, .int .u64 0, .string r.p, .string ⟨#[]⟩, .string ⟨#[]⟩], .bool true]) (by simp [results, Try.results32, go_sem, x0, x1, x2, x3, x4, x5, x6, x7]) rfl ⟨by rw [HQ.out, HI.out]; rfl, hF.out.grown⟩
  · have HQ : Hid (onlyQ r = { zeroRq with k := r.k, p := r.p }) := Lib.hid (by unfold onlyQ; rw [hk]; rfl)
    have HI : Hid (isKind r.k = true) := Lib.hid (by rw [hk]; rfl)
    have q1 : ((r.k : Int) == 1) = false := by rw [hk]; rfl
    have q2 : ((r.k : Int) == 2) = false := by rw [hk]; rfl
    have q3 : ((r.k : Int) == 3) = false := by rw [hk]; rfl
    have q4 : ((r.k : Int) == 4) = false := by rw [hk]; rfl
    have q5 : ((r.k : Int) == 5) = false := by rw [hk]; rfl
    have q6 : ((r.k : Int) == 6) = false := by rw [hk]; rfl
    have q7 : ((r.k : Int) == 7) = false := by rw [hk]; rfl
    have q8 : ((r.k : Int) == 8) = false := by rw [hk]; rfl
    have q9 : ((r.k : Int) == 9) = true := by rw [hk]; rfl
    have q11 : ((r.k : Int) == 11) = false := by rw [hk]; rfl
    have q10 : ((r.k : Int) == 10) = false := by rw [hk]; rfl
    have q12 : ((r.k : Int) == 12) = false := by rw [hk]; rfl
    have q13 : ((r.k : Int) == 13) = false := by rw [hk]; rfl
    clear hk
    have g0 := (own_cellB hO.out 0 rfl 5 (u := .string r.p) rfl).1
    obtain ⟨y0, yz0⟩ := own_cellB hO.out 2 rfl 5 (u := .string ⟨#[]⟩) rfl
    have hOn := own_put hO.out 2 rfl 5 (.string r.p)
    go_upto_region 31 with fail
    generalize World.setCell _ _ _ = wn at hOn ⊢
    replace hO : Hid (Grommet.Own w wn [boxP G 24 r.cs, boxP Z 24 #[.int .u8 0, .int .u8 0, .int .u64 0, .int .u64 0, .int .u64 0, .string ⟨#[]⟩, .string ⟨#[]⟩, .string ⟨#[]⟩], boxP Y 24 #[.int .u8 (r.k : Int), .int .u8 0, .int .u64 0, .int .u64 0, .int .u64 0, .string r.p, .string ⟨#[]⟩, .string ⟨#[]⟩]]) := Lib.hid hOn
    clear hOn g0 y0 yz0 c0 k0
    have y0 := (own_cellB hO.out 2 rfl 0 (u := .int .u8 (r.k : Int)) rfl).1
    have y1 := (own_cellB hO.out 2 rfl 1 (u := .int .u8 0) rfl).1
    have y2 := (own_cellB hO.out 2 rfl 2 (u := .int .u64 0) rfl).1
    have y3 := (own_cellB hO.out 2 rfl 3 (u := .int .u64 0) rfl).1
    have y4 := (own_cellB hO.out 2 rfl 4 (u := .int .u64 0) rfl).1
    have y5 := (own_cellB hO.out 2 rfl 5 (u := .string r.p) rfl).1
    have y6 := (own_cellB hO.out 2 rfl 6 (u := .string ⟨#[]⟩) rfl).1
    have y7 := (own_cellB hO.out 2 rfl 7 (u := .string ⟨#[]⟩) rfl).1
    obtain ⟨z0, z0z⟩ := own_cellB hO.out 1 rfl 0 (u := .int .u8 0) rfl
    obtain ⟨z1, z1z⟩ := own_cellB hO.out 1 rfl 1 (u := .int .u8 0) rfl
    obtain ⟨z2, z2z⟩ := own_cellB hO.out 1 rfl 2 (u := .int .u64 0) rfl
    obtain ⟨z3, z3z⟩ := own_cellB hO.out 1 rfl 3 (u := .int .u64 0) rfl
    obtain ⟨z4, z4z⟩ := own_cellB hO.out 1 rfl 4 (u := .int .u64 0) rfl
    obtain ⟨z5, z5z⟩ := own_cellB hO.out 1 rfl 5 (u := .string ⟨#[]⟩) rfl
    obtain ⟨z6, z6z⟩ := own_cellB hO.out 1 rfl 6 (u := .string ⟨#[]⟩) rfl
    obtain ⟨z7, z7z⟩ := own_cellB hO.out 1 rfl 7 (u := .string ⟨#[]⟩) rfl
    have hF : Hid (Grommet.Own w ((((((((wn.setCell ⟨Z, 0, none⟩ (.int .u8 (r.k : Int))).setCell ⟨Z, 1, none⟩ (.int .u8 0)).setCell ⟨Z, 2, none⟩ (.int .u64 0)).setCell ⟨Z, 3, none⟩ (.int .u64 0)).setCell ⟨Z, 4, none⟩ (.int .u64 0)).setCell ⟨Z, 5, none⟩ (.string r.p)).setCell ⟨Z, 6, none⟩ (.string ⟨#[]⟩)).setCell ⟨Z, 7, none⟩ (.string ⟨#[]⟩)) [boxP G 24 r.cs, boxP Z 24 (Rq.mk (r.k) 0 0 0 0 r.p ⟨#[]⟩ ⟨#[]⟩).cs, boxP Y 24 #[.int .u8 (r.k : Int), .int .u8 0, .int .u64 0, .int .u64 0, .int .u64 0, .string r.p, .string ⟨#[]⟩, .string ⟨#[]⟩]]) := Lib.hid (own_fill hO.out 1 rfl (cs := #[.int .u8 0, .int .u8 0, .int .u64 0, .int .u64 0, .int .u64 0, .string ⟨#[]⟩, .string ⟨#[]⟩, .string ⟨#[]⟩]) rfl (Rq.mk (r.k) 0 0 0 0 r.p ⟨#[]⟩ ⟨#[]⟩))
    obtain ⟨W3, hW3⟩ : ∃ W3, ((((((((wn.setCell ⟨Z, 0, none⟩ (.int .u8 (r.k : Int))).setCell ⟨Z, 1, none⟩ (.int .u8 0)).setCell ⟨Z, 2, none⟩ (.int .u64 0)).setCell ⟨Z, 3, none⟩ (.int .u64 0)).setCell ⟨Z, 4, none⟩ (.int .u64 0)).setCell ⟨Z, 5, none⟩ (.string r.p)).setCell ⟨Z, 6, none⟩ (.string ⟨#[]⟩)).setCell ⟨Z, 7, none⟩ (.string ⟨#[]⟩)) = W3 := ⟨_, rfl⟩
    rw [hW3] at hF
    clear hO
    go_wp2
    try rw [hW3]
    clear hW3 z0 z0z y0 z1 z1z y1 z2 z2z y2 z3 z3z y3 z4 z4z y4 z5 z5z y5 z6 z6z y6 z7 z7z y7
    have x0 := (own_cellB hF.out 1 rfl 0 (u := .int .u8 (r.k : Int)) rfl).1
    have x1 := (own_cellB hF.out 1 rfl 1 (u := .int .u8 0) rfl).1
    have x2 := (own_cellB hF.out 1 rfl 2 (u := .int .u64 0) rfl).1
    have x3 := (own_cellB hF.out 1 rfl 3 (u := .int .u64 0) rfl).1
    have x4 := (own_cellB hF.out 1 rfl 4 (u := .int .u64 0) rfl).1
    have x5 := (own_cellB hF.out 1 rfl 5 (u := .string r.p) rfl).1
    have x6 := (own_cellB hF.out 1 rfl 6 (u := .string ⟨#[]⟩) rfl).1
    have x7 := (own_cellB hF.out 1 rfl 7 (u := .string ⟨#[]⟩) rfl).1
    exact bodyPost_ret (v := .tuple #[.agg #[.int .u8 (r.k : Int), .int .u8 0, .int .u64 0, .int .u64 0, .int .u64 0, .string r.p, .string ⟨#[]⟩, .string ⟨#[]⟩], .bool true]) (by simp [results, Try.results32, go_sem, x0, x1, x2, x3, x4, x5, x6, x7]) rfl ⟨by rw [HQ.out, HI.out]; rfl, hF.out.grown⟩
  · have HQ : Hid (onlyQ r = { zeroRq with k := r.k, p := r.p, t := r.t }) := Lib.hid (by unfold onlyQ; rw [hk]; rfl)
    have HI : Hid (isKind r.k = true) := Lib.hid (by rw [hk]; rfl)
    have q1 : ((r.k : Int) == 1) = false := by rw [hk]; rfl
    have q2 : ((r.k : Int) == 2) = false := by rw [hk]; rfl
    have q3 : ((r.k : Int) == 3) = false := by rw [hk]; rfl
    have q4 : ((r.k : Int) == 4) = false := by rw [hk]; rfl
    have q5 : ((r.k : Int) == 5) = false := by rw [hk]; rfl
    have q6 : ((r.k : Int) == 6) = false := by rw [hk]; rfl
    have q7 : ((r.k : Int) == 7) = false := by rw [hk]; rfl
    have q8 : ((r.k : Int) == 8) = false := by rw [hk]; rfl
    have q9 : ((r.k : Int) == 9) = false := by rw [hk]; rfl
    have q11 : ((r.k : Int) == 11) = false := by rw [hk]; rfl
    have q10 : ((r.k : Int) == 10) = true := by rw [hk]; rfl
    have q12 : ((r.k : Int) == 12) = false := by rw [hk]; rfl
    have q13 : ((r.k : Int) == 13) = false := by rw [hk]; rfl
    clear hk
    have g0 := (own_cellB hO.out 0 rfl 5 (u := .string r.p) rfl).1
    obtain ⟨y0, yz0⟩ := own_cellB hO.out 2 rfl 5 (u := .string ⟨#[]⟩) rfl
    have hOn := own_put hO.out 2 rfl 5 (.string r.p)
    go_upto_region 27 with fail
    generalize World.setCell _ _ _ = wn at hOn ⊢
    replace hO : Hid (Grommet.Own w wn [boxP G 24 r.cs, boxP Z 24 #[.int .u8 0, .int .u8 0, .int .u64 0, .int .u64 0, .int .u64 0, .string ⟨#[]⟩, .string ⟨#[]⟩, .string ⟨#[]⟩], boxP Y 24 #[.int .u8 (r.k : Int), .int .u8 0, .int .u64 0, .int .u64 0, .int .u64 0, .string r.p, .string ⟨#[]⟩, .string ⟨#[]⟩]]) := Lib.hid hOn
    clear hOn g0 y0 yz0 c0 k0
    have g1 := (own_cellB hO.out 0 rfl 6 (u := .string r.t) rfl).1
    obtain ⟨y1, yz1⟩ := own_cellB hO.out 2 rfl 6 (u := .string ⟨#[]⟩) rfl
    have hOn := own_put hO.out 2 rfl 6 (.string r.t)
    go_upto_region 31 with fail
    generalize World.setCell _ _ _ = wn at hOn ⊢
    replace hO : Hid (Grommet.Own w wn [boxP G 24 r.cs, boxP Z 24 #[.int .u8 0, .int .u8 0, .int .u64 0, .int .u64 0, .int .u64 0, .string ⟨#[]⟩, .string ⟨#[]⟩, .string ⟨#[]⟩], boxP Y 24 #[.int .u8 (r.k : Int), .int .u8 0, .int .u64 0, .int .u64 0, .int .u64 0, .string r.p, .string r.t, .string ⟨#[]⟩]]) := Lib.hid hOn
    clear hOn g1 y1 yz1
    have y0 := (own_cellB hO.out 2 rfl 0 (u := .int .u8 (r.k : Int)) rfl).1
    have y1 := (own_cellB hO.out 2 rfl 1 (u := .int .u8 0) rfl).1
    have y2 := (own_cellB hO.out 2 rfl 2 (u := .int .u64 0) rfl).1
    have y3 := (own_cellB hO.out 2 rfl 3 (u := .int .u64 0) rfl).1
    have y4 := (own_cellB hO.out 2 rfl 4 (u := .int .u64 0) rfl).1
    have y5 := (own_cellB hO.out 2 rfl 5 (u := .string r.p) rfl).1
    have y6 := (own_cellB hO.out 2 rfl 6 (u := .string r.t) rfl).1
    have y7 := (own_cellB hO.out 2 rfl 7 (u := .string ⟨#[]⟩) rfl).1
    obtain ⟨z0, z0z⟩ := own_cellB hO.out 1 rfl 0 (u := .int .u8 0) rfl
    obtain ⟨z1, z1z⟩ := own_cellB hO.out 1 rfl 1 (u := .int .u8 0) rfl
    obtain ⟨z2, z2z⟩ := own_cellB hO.out 1 rfl 2 (u := .int .u64 0) rfl
    obtain ⟨z3, z3z⟩ := own_cellB hO.out 1 rfl 3 (u := .int .u64 0) rfl
    obtain ⟨z4, z4z⟩ := own_cellB hO.out 1 rfl 4 (u := .int .u64 0) rfl
    obtain ⟨z5, z5z⟩ := own_cellB hO.out 1 rfl 5 (u := .string ⟨#[]⟩) rfl
    obtain ⟨z6, z6z⟩ := own_cellB hO.out 1 rfl 6 (u := .string ⟨#[]⟩) rfl
    obtain ⟨z7, z7z⟩ := own_cellB hO.out 1 rfl 7 (u := .string ⟨#[]⟩) rfl
    have hF : Hid (Grommet.Own w ((((((((wn.setCell ⟨Z, 0, none⟩ (.int .u8 (r.k : Int))).setCell ⟨Z, 1, none⟩ (.int .u8 0)).setCell ⟨Z, 2, none⟩ (.int .u64 0)).setCell ⟨Z, 3, none⟩ (.int .u64 0)).setCell ⟨Z, 4, none⟩ (.int .u64 0)).setCell ⟨Z, 5, none⟩ (.string r.p)).setCell ⟨Z, 6, none⟩ (.string r.t)).setCell ⟨Z, 7, none⟩ (.string ⟨#[]⟩)) [boxP G 24 r.cs, boxP Z 24 (Rq.mk (r.k) 0 0 0 0 r.p r.t ⟨#[]⟩).cs, boxP Y 24 #[.int .u8 (r.k : Int), .int .u8 0, .int .u64 0, .int .u64 0, .int .u64 0, .string r.p, .string r.t, .string ⟨#[]⟩]]) := Lib.hid (own_fill hO.out 1 rfl (cs := #[.int .u8 0, .int .u8 0, .int .u64 0, .int .u64 0, .int .u64 0, .string ⟨#[]⟩, .string ⟨#[]⟩, .string ⟨#[]⟩]) rfl (Rq.mk (r.k) 0 0 0 0 r.p r.t ⟨#[]⟩))
    obtain ⟨W3, hW3⟩ : ∃ W3, ((((((((wn.setCell ⟨Z, 0, none⟩ (.int .u8 (r.k : Int))).setCell ⟨Z, 1, none⟩ (.int .u8 0)).setCell ⟨Z, 2, none⟩ (.int .u64 0)).setCell ⟨Z, 3, none⟩ (.int .u64 0)).setCell ⟨Z, 4, none⟩ (.int .u64 0)).setCell ⟨Z, 5, none⟩ (.string r.p)).setCell ⟨Z, 6, none⟩ (.string r.t)).setCell ⟨Z, 7, none⟩ (.string ⟨#[]⟩)) = W3 := ⟨_, rfl⟩
    rw [hW3] at hF
    clear hO
    go_wp2
    try rw [hW3]
    clear hW3 z0 z0z y0 z1 z1z y1 z2 z2z y2 z3 z3z y3 z4 z4z y4 z5 z5z y5 z6 z6z y6 z7 z7z y7
    have x0 := (own_cellB hF.out 1 rfl 0 (u := .int .u8 (r.k : Int)) rfl).1
    have x1 := (own_cellB hF.out 1 rfl 1 (u := .int .u8 0) rfl).1
    have x2 := (own_cellB hF.out 1 rfl 2 (u := .int .u64 0) rfl).1
    have x3 := (own_cellB hF.out 1 rfl 3 (u := .int .u64 0) rfl).1
    have x4 := (own_cellB hF.out 1 rfl 4 (u := .int .u64 0) rfl).1
    have x5 := (own_cellB hF.out 1 rfl 5 (u := .string r.p) rfl).1
    have x6 := (own_cellB hF.out 1 rfl 6 (u := .string r.t) rfl).1
    have x7 := (own_cellB hF.out 1 rfl 7 (u := .string ⟨#[]⟩) rfl).1
    exact bodyPost_ret (v := .tuple #[.agg #[.int .u8 (r.k : Int), .int .u8 0, .int .u64 0, .int .u64 0, .int .u64 0, .string r.p, .string r.t, .string ⟨#[]⟩], .bool true]) (by simp [results, Try.results32, go_sem, x0, x1, x2, x3, x4, x5, x6, x7]) rfl ⟨by rw [HQ.out, HI.out]; rfl, hF.out.grown⟩
  · have HQ : Hid (onlyQ r = { zeroRq with k := r.k, p := r.p }) := Lib.hid (by unfold onlyQ; rw [hk]; rfl)
    have HI : Hid (isKind r.k = true) := Lib.hid (by rw [hk]; rfl)
    have q1 : ((r.k : Int) == 1) = false := by rw [hk]; rfl
    have q2 : ((r.k : Int) == 2) = false := by rw [hk]; rfl
    have q3 : ((r.k : Int) == 3) = false := by rw [hk]; rfl
    have q4 : ((r.k : Int) == 4) = false := by rw [hk]; rfl
    have q5 : ((r.k : Int) == 5) = false := by rw [hk]; rfl
    have q6 : ((r.k : Int) == 6) = false := by rw [hk]; rfl
    have q7 : ((r.k : Int) == 7) = false := by rw [hk]; rfl
    have q8 : ((r.k : Int) == 8) = false := by rw [hk]; rfl
    have q9 : ((r.k : Int) == 9) = false := by rw [hk]; rfl
    have q11 : ((r.k : Int) == 11) = true := by rw [hk]; rfl
    have q10 : ((r.k : Int) == 10) = false := by rw [hk]; rfl
    have q12 : ((r.k : Int) == 12) = false := by rw [hk]; rfl
    have q13 : ((r.k : Int) == 13) = false := by rw [hk]; rfl
    clear hk
    have g0 := (own_cellB hO.out 0 rfl 5 (u := .string r.p) rfl).1
    obtain ⟨y0, yz0⟩ := own_cellB hO.out 2 rfl 5 (u := .string ⟨#[]⟩) rfl
    have hOn := own_put hO.out 2 rfl 5 (.string r.p)
    go_upto_region 31 with fail
    generalize World.setCell _ _ _ = wn at hOn ⊢
    replace hO : Hid (Grommet.Own w wn [boxP G 24 r.cs, boxP Z 24 #[.int .u8 0, .int .u8 0, .int .u64 0, .int .u64 0, .int .u64 0, .string ⟨#[]⟩, .string ⟨#[]⟩, .string ⟨#[]⟩], boxP Y 24 #[.int .u8 (r.k : Int), .int .u8 0, .int .u64 0, .int .u64 0, .int .u64 0, .string r.p, .string ⟨#[]⟩, .string ⟨#[]⟩]]) := Lib.hid hOn
    clear hOn g0 y0 yz0 c0 k0
    have y0 := (own_cellB hO.out 2 rfl 0 (u := .int .u8 (r.k : Int)) rfl).1
    have y1 := (own_cellB hO.out 2 rfl 1 (u := .int .u8 0) rfl).1
    have y2 := (own_cellB hO.out 2 rfl 2 (u := .int .u64 0) rfl).1
    have y3 := (own_cellB hO.out 2 rfl 3 (u := .int .u64 0) rfl).1
    have y4 := (own_cellB hO.out 2 rfl 4 (u := .int .u64 0) rfl).1
    have y5 := (own_cellB hO.out 2 rfl 5 (u := .string r.p) rfl).1
    have y6 := (own_cellB hO.out 2 rfl 6 (u := .string ⟨#[]⟩) rfl).1
    have y7 := (own_cellB hO.out 2 rfl 7 (u := .string ⟨#[]⟩) rfl).1
    obtain ⟨z0, z0z⟩ := own_cellB hO.out 1 rfl 0 (u := .int .u8 0) rfl
    obtain ⟨z1, z1z⟩ := own_cellB hO.out 1 rfl 1 (u := .int .u8 0) rfl
    obtain ⟨z2, z2z⟩ := own_cellB hO.out 1 rfl 2 (u := .int .u64 0) rfl
    obtain ⟨z3, z3z⟩ := own_cellB hO.out 1 rfl 3 (u := .int .u64 0) rfl
    obtain ⟨z4, z4z⟩ := own_cellB hO.out 1 rfl 4 (u := .int .u64 0) rfl
    obtain ⟨z5, z5z⟩ := own_cellB hO.out 1 rfl 5 (u := .string ⟨#[]⟩) rfl
    obtain ⟨z6, z6z⟩ := own_cellB hO.out 1 rfl 6 (u := .string ⟨#[]⟩) rfl
    obtain ⟨z7, z7z⟩ := own_cellB hO.out 1 rfl 7 (u := .string ⟨#[]⟩) rfl
    have hF : Hid (Grommet.Own w ((((((((wn.setCell ⟨Z, 0, none⟩ (.int .u8 (r.k : Int))).setCell ⟨Z, 1, none⟩ (.int .u8 0)).setCell ⟨Z, 2, none⟩ (.int .u64 0)).setCell ⟨Z, 3, none⟩ (.int .u64 0)).setCell ⟨Z, 4, none⟩ (.int .u64 0)).setCell ⟨Z, 5, none⟩ (.string r.p)).setCell ⟨Z, 6, none⟩ (.string ⟨#[]⟩)).setCell ⟨Z, 7, none⟩ (.string ⟨#[]⟩)) [boxP G 24 r.cs, boxP Z 24 (Rq.mk (r.k) 0 0 0 0 r.p ⟨#[]⟩ ⟨#[]⟩).cs, boxP Y 24 #[.int .u8 (r.k : Int), .int .u8 0, .int .u64 0, .int .u64 0, .int .u64 0, .string r.p, .string ⟨#[]⟩, .string ⟨#[]⟩]]) := Lib.hid (own_fill hO.out 1 rfl (cs := #[.int .u8 0, .int .u8 0, .int .u64 0, .int .u64 0, .int .u64 0, .string ⟨#[]⟩, .string ⟨#[]⟩, .string ⟨#[]⟩]) rfl (Rq.mk (r.k) 0 0 0 0 r.p ⟨#[]⟩ ⟨#[]⟩))
    obtain ⟨W3, hW3⟩ : ∃ W3, ((((((((wn.setCell ⟨Z, 0, none⟩ (.int .u8 (r.k : Int))).setCell ⟨Z, 1, none⟩ (.int .u8 0)).setCell ⟨Z, 2, none⟩ (.int .u64 0)).setCell ⟨Z, 3, none⟩ (.int .u64 0)).setCell ⟨Z, 4, none⟩ (.int .u64 0)).setCell ⟨Z, 5, none⟩ (.string r.p)).setCell ⟨Z, 6, none⟩ (.string ⟨#[]⟩)).setCell ⟨Z, 7, none⟩ (.string ⟨#[]⟩)) = W3 := ⟨_, rfl⟩
    rw [hW3] at hF
    clear hO
    go_wp2
    try rw [hW3]
    clear hW3 z0 z0z y0 z1 z1z y1 z2 z2z y2 z3 z3z y3 z4 z4z y4 z5 z5z y5 z6 z6z y6 z7 z7z y7
    have x0 := (own_cellB hF.out 1 rfl 0 (u := .int .u8 (r.k : Int)) rfl).1
    have x1 := (own_cellB hF.out 1 rfl 1 (u := .int .u8 0) rfl).1
    have x2 := (own_cellB hF.out 1 rfl 2 (u := .int .u64 0) rfl).1
    have x3 := (own_cellB hF.out 1 rfl 3 (u := .int .u64 0) rfl).1
    have x4 := (own_cellB hF.out 1 rfl 4 (u := .int .u64 0) rfl).1
    have x5 := (own_cellB hF.out 1 rfl 5 (u := .string r.p) rfl).1
    have x6 := (own_cellB hF.out 1 rfl 6 (u := .string ⟨#[]⟩) rfl).1
    have x7 := (own_cellB hF.out 1 rfl 7 (u := .string ⟨#[]⟩) rfl).1
    exact bodyPost_ret (v := .tuple #[.agg #[.int .u8 (r.k : Int), .int .u8 0, .int .u64 0, .int .u64 0, .int .u64 0, .string r.p, .string ⟨#[]⟩, .string ⟨#[]⟩], .bool true]) (by simp [results, Try.results32, go_sem, x0, x1, x2, x3, x4, x5, x6, x7]) rfl ⟨by rw [HQ.out, HI.out]; rfl, hF.out.grown⟩
  · have HQ : Hid (onlyQ r = { zeroRq with k := r.k, p := r.p, t := r.t }) := Lib.hid (by unfold onlyQ; rw [hk]; rfl)
    have HI : Hid (isKind r.k = true) := Lib.hid (by rw [hk]; rfl)
    have q1 : ((r.k : Int) == 1) = false := by rw [hk]; rfl
    have q2 : ((r.k : Int) == 2) = false := by rw [hk]; rfl
    have q3 : ((r.k : Int) == 3) = false := by rw [hk]; rfl
    have q4 : ((r.k : Int) == 4) = false := by rw [hk]; rfl
    have q5 : ((r.k : Int) == 5) = false := by rw [hk]; rfl
    have q6 : ((r.k : Int) == 6) = false := by rw [hk]; rfl
    have q7 : ((r.k : Int) == 7) = false := by rw [hk]; rfl
    have q8 : ((r.k : Int) == 8) = false := by rw [hk]; rfl
    have q9 : ((r.k : Int) == 9) = false := by rw [hk]; rfl
    have q11 : ((r.k : Int) == 11) = false := by rw [hk]; rfl
    have q10 : ((r.k : Int) == 10) = false := by rw [hk]; rfl
    have q12 : ((r.k : Int) == 12) = true := by rw [hk]; rfl
    have q13 : ((r.k : Int) == 13) = false := by rw [hk]; rfl
    clear hk
    have g0 := (own_cellB hO.out 0 rfl 5 (u := .string r.p) rfl).1
    obtain ⟨y0, yz0⟩ := own_cellB hO.out 2 rfl 5 (u := .string ⟨#[]⟩) rfl
    have hOn := own_put hO.out 2 rfl 5 (.string r.p)
    go_upto_region 27 with fail
    generalize World.setCell _ _ _ = wn at hOn ⊢
    replace hO : Hid (Grommet.Own w wn [boxP G 24 r.cs, boxP Z 24 #[.int .u8 0, .int .u8 0, .int .u64 0, .int .u64 0, .int .u64 0, .string ⟨#[]⟩, .string ⟨#[]⟩, .string ⟨#[]⟩], boxP Y 24 #[.int .u8 (r.k : Int), .int .u8 0, .int .u64 0, .int .u64 0, .int .u64 0, .string r.p, .string ⟨#[]⟩, .string ⟨#[]⟩]]) := Lib.hid hOn
    clear hOn g0 y0 yz0 c0 k0
    have g1 := (own_cellB hO.out 0 rfl 6 (u := .string r.t) rfl).1
    obtain ⟨y1, yz1⟩ := own_cellB hO.out 2 rfl 6 (u := .string ⟨#[]⟩) rfl
    have hOn := own_put hO.out 2 rfl 6 (.string r.t)
    go_upto_region 31 with fail
    generalize World.setCell _ _ _ = wn at hOn ⊢
    replace hO : Hid (Grommet.Own w wn [boxP G 24 r.cs, boxP Z 24 #[.int .u8 0, .int .u8 0, .int .u64 0, .int .u64 0, .int .u64 0, .string ⟨#[]⟩, .string ⟨#[]⟩, .string ⟨#[]⟩], boxP Y 24 #[.int .u8 (r.k : Int), .int .u8 0, .int .u64 0, .int .u64 0, .int .u64 0, .string r.p, .string r.t, .string ⟨#[]⟩]]) := Lib.hid hOn
    clear hOn g1 y1 yz1
    have y0 := (own_cellB hO.out 2 rfl 0 (u := .int .u8 (r.k : Int)) rfl).1
    have y1 := (own_cellB hO.out 2 rfl 1 (u := .int .u8 0) rfl).1
    have y2 := (own_cellB hO.out 2 rfl 2 (u := .int .u64 0) rfl).1
    have y3 := (own_cellB hO.out 2 rfl 3 (u := .int .u64 0) rfl).1
    have y4 := (own_cellB hO.out 2 rfl 4 (u := .int .u64 0) rfl).1
    have y5 := (own_cellB hO.out 2 rfl 5 (u := .string r.p) rfl).1
    have y6 := (own_cellB hO.out 2 rfl 6 (u := .string r.t) rfl).1
    have y7 := (own_cellB hO.out 2 rfl 7 (u := .string ⟨#[]⟩) rfl).1
    obtain ⟨z0, z0z⟩ := own_cellB hO.out 1 rfl 0 (u := .int .u8 0) rfl
    obtain ⟨z1, z1z⟩ := own_cellB hO.out 1 rfl 1 (u := .int .u8 0) rfl
    obtain ⟨z2, z2z⟩ := own_cellB hO.out 1 rfl 2 (u := .int .u64 0) rfl
    obtain ⟨z3, z3z⟩ := own_cellB hO.out 1 rfl 3 (u := .int .u64 0) rfl
    obtain ⟨z4, z4z⟩ := own_cellB hO.out 1 rfl 4 (u := .int .u64 0) rfl
    obtain ⟨z5, z5z⟩ := own_cellB hO.out 1 rfl 5 (u := .string ⟨#[]⟩) rfl
    obtain ⟨z6, z6z⟩ := own_cellB hO.out 1 rfl 6 (u := .string ⟨#[]⟩) rfl
    obtain ⟨z7, z7z⟩ := own_cellB hO.out 1 rfl 7 (u := .string ⟨#[]⟩) rfl
    have hF : Hid (Grommet.Own w ((((((((wn.setCell ⟨Z, 0, none⟩ (.int .u8 (r.k : Int))).setCell ⟨Z, 1, none⟩ (.int .u8 0)).setCell ⟨Z, 2, none⟩ (.int .u64 0)).setCell ⟨Z, 3, none⟩ (.int .u64 0)).setCell ⟨Z, 4, none⟩ (.int .u64 0)).setCell ⟨Z, 5, none⟩ (.string r.p)).setCell ⟨Z, 6, none⟩ (.string r.t)).setCell ⟨Z, 7, none⟩ (.string ⟨#[]⟩)) [boxP G 24 r.cs, boxP Z 24 (Rq.mk (r.k) 0 0 0 0 r.p r.t ⟨#[]⟩).cs, boxP Y 24 #[.int .u8 (r.k : Int), .int .u8 0, .int .u64 0, .int .u64 0, .int .u64 0, .string r.p, .string r.t, .string ⟨#[]⟩]]) := Lib.hid (own_fill hO.out 1 rfl (cs := #[.int .u8 0, .int .u8 0, .int .u64 0, .int .u64 0, .int .u64 0, .string ⟨#[]⟩, .string ⟨#[]⟩, .string ⟨#[]⟩]) rfl (Rq.mk (r.k) 0 0 0 0 r.p r.t ⟨#[]⟩))
    obtain ⟨W3, hW3⟩ : ∃ W3, ((((((((wn.setCell ⟨Z, 0, none⟩ (.int .u8 (r.k : Int))).setCell ⟨Z, 1, none⟩ (.int .u8 0)).setCell ⟨Z, 2, none⟩ (.int .u64 0)).setCell ⟨Z, 3, none⟩ (.int .u64 0)).setCell ⟨Z, 4, none⟩ (.int .u64 0)).setCell ⟨Z, 5, none⟩ (.string r.p)).setCell ⟨Z, 6, none⟩ (.string r.t)).setCell ⟨Z, 7, none⟩ (.string ⟨#[]⟩)) = W3 := ⟨_, rfl⟩
    rw [hW3] at hF
    clear hO
    go_wp2
    try rw [hW3]
    clear hW3 z0 z0z y0 z1 z1z y1 z2 z2z y2 z3 z3z y3 z4 z4z y4 z5 z5z y5 z6 z6z y6 z7 z7z y7
    have x0 := (own_cellB hF.out 1 rfl 0 (u := .int .u8 (r.k : Int)) rfl).1
    have x1 := (own_cellB hF.out 1 rfl 1 (u := .int .u8 0) rfl).1
    have x2 := (own_cellB hF.out 1 rfl 2 (u := .int .u64 0) rfl).1
    have x3 := (own_cellB hF.out 1 rfl 3 (u := .int .u64 0) rfl).1
    have x4 := (own_cellB hF.out 1 rfl 4 (u := .int .u64 0) rfl).1
    have x5 := (own_cellB hF.out 1 rfl 5 (u := .string r.p) rfl).1
    have x6 := (own_cellB hF.out 1 rfl 6 (u := .string r.t) rfl).1
    have x7 := (own_cellB hF.out 1 rfl 7 (u := .string ⟨#[]⟩) rfl).1
    exact bodyPost_ret (v := .tuple #[.agg #[.int .u8 (r.k : Int), .int .u8 0, .int .u64 0, .int .u64 0, .int .u64 0, .string r.p, .string r.t, .string ⟨#[]⟩], .bool true]) (by simp [results, Try.results32, go_sem, x0, x1, x2, x3, x4, x5, x6, x7]) rfl ⟨by rw [HQ.out, HI.out]; rfl, hF.out.grown⟩
  · have HQ : Hid (onlyQ r = { zeroRq with k := r.k, p := r.p, at_ := r.at_ }) := Lib.hid (by unfold onlyQ; rw [hk]; rfl)
    have HI : Hid (isKind r.k = true) := Lib.hid (by rw [hk]; rfl)
    have q1 : ((r.k : Int) == 1) = false := by rw [hk]; rfl
    have q2 : ((r.k : Int) == 2) = false := by rw [hk]; rfl
    have q3 : ((r.k : Int) == 3) = false := by rw [hk]; rfl
    have q4 : ((r.k : Int) == 4) = false := by rw [hk]; rfl
    have q5 : ((r.k : Int) == 5) = false := by rw [hk]; rfl
    have q6 : ((r.k : Int) == 6) = false := by rw [hk]; rfl
    have q7 : ((r.k : Int) == 7) = false := by rw [hk]; rfl
    have q8 : ((r.k : Int) == 8) = false := by rw [hk]; rfl
    have q9 : ((r.k : Int) == 9) = false := by rw [hk]; rfl
    have q11 : ((r.k : Int) == 11) = false := by rw [hk]; rfl
    have q10 : ((r.k : Int) == 10) = false := by rw [hk]; rfl
    have q12 : ((r.k : Int) == 12) = false := by rw [hk]; rfl
    have q13 : ((r.k : Int) == 13) = true := by rw [hk]; rfl
    clear hk
    have g0 := (own_cellB hO.out 0 rfl 5 (u := .string r.p) rfl).1
    obtain ⟨y0, yz0⟩ := own_cellB hO.out 2 rfl 5 (u := .string ⟨#[]⟩) rfl
    have hOn := own_put hO.out 2 rfl 5 (.string r.p)
    go_upto_region 30 with fail
    generalize World.setCell _ _ _ = wn at hOn ⊢
    replace hO : Hid (Grommet.Own w wn [boxP G 24 r.cs, boxP Z 24 #[.int .u8 0, .int .u8 0, .int .u64 0, .int .u64 0, .int .u64 0, .string ⟨#[]⟩, .string ⟨#[]⟩, .string ⟨#[]⟩], boxP Y 24 #[.int .u8 (r.k : Int), .int .u8 0, .int .u64 0, .int .u64 0, .int .u64 0, .string r.p, .string ⟨#[]⟩, .string ⟨#[]⟩]]) := Lib.hid hOn
    clear hOn g0 y0 yz0 c0 k0
    have g1 := (own_cellB hO.out 0 rfl 3 (u := .int .u64 (r.at_ : Int)) rfl).1
    obtain ⟨y1, yz1⟩ := own_cellB hO.out 2 rfl 3 (u := .int .u64 0) rfl
    have hOn := own_put hO.out 2 rfl 3 (.int .u64 (r.at_ : Int))
    go_upto_region 31 with fail
    generalize World.setCell _ _ _ = wn at hOn ⊢
    replace hO : Hid (Grommet.Own w wn [boxP G 24 r.cs, boxP Z 24 #[.int .u8 0, .int .u8 0, .int .u64 0, .int .u64 0, .int .u64 0, .string ⟨#[]⟩, .string ⟨#[]⟩, .string ⟨#[]⟩], boxP Y 24 #[.int .u8 (r.k : Int), .int .u8 0, .int .u64 0, .int .u64 (r.at_ : Int), .int .u64 0, .string r.p, .string ⟨#[]⟩, .string ⟨#[]⟩]]) := Lib.hid hOn
    clear hOn g1 y1 yz1
    have y0 := (own_cellB hO.out 2 rfl 0 (u := .int .u8 (r.k : Int)) rfl).1
    have y1 := (own_cellB hO.out 2 rfl 1 (u := .int .u8 0) rfl).1
    have y2 := (own_cellB hO.out 2 rfl 2 (u := .int .u64 0) rfl).1
    have y3 := (own_cellB hO.out 2 rfl 3 (u := .int .u64 (r.at_ : Int)) rfl).1
    have y4 := (own_cellB hO.out 2 rfl 4 (u := .int .u64 0) rfl).1
    have y5 := (own_cellB hO.out 2 rfl 5 (u := .string r.p) rfl).1
    have y6 := (own_cellB hO.out 2 rfl 6 (u := .string ⟨#[]⟩) rfl).1
    have y7 := (own_cellB hO.out 2 rfl 7 (u := .string ⟨#[]⟩) rfl).1
    obtain ⟨z0, z0z⟩ := own_cellB hO.out 1 rfl 0 (u := .int .u8 0) rfl
    obtain ⟨z1, z1z⟩ := own_cellB hO.out 1 rfl 1 (u := .int .u8 0) rfl
    obtain ⟨z2, z2z⟩ := own_cellB hO.out 1 rfl 2 (u := .int .u64 0) rfl
    obtain ⟨z3, z3z⟩ := own_cellB hO.out 1 rfl 3 (u := .int .u64 0) rfl
    obtain ⟨z4, z4z⟩ := own_cellB hO.out 1 rfl 4 (u := .int .u64 0) rfl
    obtain ⟨z5, z5z⟩ := own_cellB hO.out 1 rfl 5 (u := .string ⟨#[]⟩) rfl
    obtain ⟨z6, z6z⟩ := own_cellB hO.out 1 rfl 6 (u := .string ⟨#[]⟩) rfl
    obtain ⟨z7, z7z⟩ := own_cellB hO.out 1 rfl 7 (u := .string ⟨#[]⟩) rfl
    have hF : Hid (Grommet.Own w ((((((((wn.setCell ⟨Z, 0, none⟩ (.int .u8 (r.k : Int))).setCell ⟨Z, 1, none⟩ (.int .u8 0)).setCell ⟨Z, 2, none⟩ (.int .u64 0)).setCell ⟨Z, 3, none⟩ (.int .u64 (r.at_ : Int))).setCell ⟨Z, 4, none⟩ (.int .u64 0)).setCell ⟨Z, 5, none⟩ (.string r.p)).setCell ⟨Z, 6, none⟩ (.string ⟨#[]⟩)).setCell ⟨Z, 7, none⟩ (.string ⟨#[]⟩)) [boxP G 24 r.cs, boxP Z 24 (Rq.mk (r.k) 0 0 (r.at_) 0 r.p ⟨#[]⟩ ⟨#[]⟩).cs, boxP Y 24 #[.int .u8 (r.k : Int), .int .u8 0, .int .u64 0, .int .u64 (r.at_ : Int), .int .u64 0, .string r.p, .string ⟨#[]⟩, .string ⟨#[]⟩]]) := Lib.hid (own_fill hO.out 1 rfl (cs := #[.int .u8 0, .int .u8 0, .int .u64 0, .int .u64 0, .int .u64 0, .string ⟨#[]⟩, .string ⟨#[]⟩, .string ⟨#[]⟩]) rfl (Rq.mk (r.k) 0 0 (r.at_) 0 r.p ⟨#[]⟩ ⟨#[]⟩))
    obtain ⟨W3, hW3⟩ : ∃ W3, ((((((((wn.setCell ⟨Z, 0, none⟩ (.int .u8 (r.k : Int))).setCell ⟨Z, 1, none⟩ (.int .u8 0)).setCell ⟨Z, 2, none⟩ (.int .u64 0)).setCell ⟨Z, 3, none⟩ (.int .u64 (r.at_ : Int))).setCell ⟨Z, 4, none⟩ (.int .u64 0)).setCell ⟨Z, 5, none⟩ (.string r.p)).setCell ⟨Z, 6, none⟩ (.string ⟨#[]⟩)).setCell ⟨Z, 7, none⟩ (.string ⟨#[]⟩)) = W3 := ⟨_, rfl⟩
    rw [hW3] at hF
    clear hO
    go_wp2
    try rw [hW3]
    clear hW3 z0 z0z y0 z1 z1z y1 z2 z2z y2 z3 z3z y3 z4 z4z y4 z5 z5z y5 z6 z6z y6 z7 z7z y7
    have x0 := (own_cellB hF.out 1 rfl 0 (u := .int .u8 (r.k : Int)) rfl).1
    have x1 := (own_cellB hF.out 1 rfl 1 (u := .int .u8 0) rfl).1
    have x2 := (own_cellB hF.out 1 rfl 2 (u := .int .u64 0) rfl).1
    have x3 := (own_cellB hF.out 1 rfl 3 (u := .int .u64 (r.at_ : Int)) rfl).1
    have x4 := (own_cellB hF.out 1 rfl 4 (u := .int .u64 0) rfl).1
    have x5 := (own_cellB hF.out 1 rfl 5 (u := .string r.p) rfl).1
    have x6 := (own_cellB hF.out 1 rfl 6 (u := .string ⟨#[]⟩) rfl).1
    have x7 := (own_cellB hF.out 1 rfl 7 (u := .string ⟨#[]⟩) rfl).1
    exact bodyPost_ret (v := .tuple #[.agg #[.int .u8 (r.k : Int), .int .u8 0, .int .u64 0, .int .u64 (r.at_ : Int), .int .u64 0, .string r.p, .string ⟨#[]⟩, .string ⟨#[]⟩], .bool true]) (by simp [results, Try.results32, go_sem, x0, x1, x2, x3, x4, x5, x6, x7]) rfl ⟨by rw [HQ.out, HI.out]; rfl, hF.out.grown⟩
  · have HQ : Hid (onlyQ r = { zeroRq with k := r.k }) := Lib.hid (by unfold onlyQ; rw [show flds r.k = [] from flds_none hk]; rfl)
    have HI : Hid (isKind r.k = false) := Lib.hid (by unfold isKind; simp; omega)
    have q1 : ((r.k : Int) == 1) = false := by rw [beq_eq_false_iff_ne]; omega
    have q2 : ((r.k : Int) == 2) = false := by rw [beq_eq_false_iff_ne]; omega
    have q3 : ((r.k : Int) == 3) = false := by rw [beq_eq_false_iff_ne]; omega
    have q4 : ((r.k : Int) == 4) = false := by rw [beq_eq_false_iff_ne]; omega
    have q5 : ((r.k : Int) == 5) = false := by rw [beq_eq_false_iff_ne]; omega
    have q6 : ((r.k : Int) == 6) = false := by rw [beq_eq_false_iff_ne]; omega
    have q7 : ((r.k : Int) == 7) = false := by rw [beq_eq_false_iff_ne]; omega
    have q8 : ((r.k : Int) == 8) = false := by rw [beq_eq_false_iff_ne]; omega
    have q9 : ((r.k : Int) == 9) = false := by rw [beq_eq_false_iff_ne]; omega
    have q11 : ((r.k : Int) == 11) = false := by rw [beq_eq_false_iff_ne]; omega
    have q10 : ((r.k : Int) == 10) = false := by rw [beq_eq_false_iff_ne]; omega
    have q12 : ((r.k : Int) == 12) = false := by rw [beq_eq_false_iff_ne]; omega
    have q13 : ((r.k : Int) == 13) = false := by rw [beq_eq_false_iff_ne]; omega
    clear hk
    go_upto_region 3 with fail
    generalize hwn : w2 = wn at hO ⊢
    clear c0 k0
    have y0 := (own_cellB hO.out 2 rfl 0 (u := .int .u8 (r.k : Int)) rfl).1
    have y1 := (own_cellB hO.out 2 rfl 1 (u := .int .u8 0) rfl).1
    have y2 := (own_cellB hO.out 2 rfl 2 (u := .int .u64 0) rfl).1
    have y3 := (own_cellB hO.out 2 rfl 3 (u := .int .u64 0) rfl).1
    have y4 := (own_cellB hO.out 2 rfl 4 (u := .int .u64 0) rfl).1
    have y5 := (own_cellB hO.out 2 rfl 5 (u := .string ⟨#[]⟩) rfl).1
    have y6 := (own_cellB hO.out 2 rfl 6 (u := .string ⟨#[]⟩) rfl).1
    have y7 := (own_cellB hO.out 2 rfl 7 (u := .string ⟨#[]⟩) rfl).1
    obtain ⟨z0, z0z⟩ := own_cellB hO.out 1 rfl 0 (u := .int .u8 0) rfl
    obtain ⟨z1, z1z⟩ := own_cellB hO.out 1 rfl 1 (u := .int .u8 0) rfl
    obtain ⟨z2, z2z⟩ := own_cellB hO.out 1 rfl 2 (u := .int .u64 0) rfl
    obtain ⟨z3, z3z⟩ := own_cellB hO.out 1 rfl 3 (u := .int .u64 0) rfl
    obtain ⟨z4, z4z⟩ := own_cellB hO.out 1 rfl 4 (u := .int .u64 0) rfl
    obtain ⟨z5, z5z⟩ := own_cellB hO.out 1 rfl 5 (u := .string ⟨#[]⟩) rfl
    obtain ⟨z6, z6z⟩ := own_cellB hO.out 1 rfl 6 (u := .string ⟨#[]⟩) rfl
    obtain ⟨z7, z7z⟩ := own_cellB hO.out 1 rfl 7 (u := .string ⟨#[]⟩) rfl
    have hF : Hid (Grommet.Own w ((((((((wn.setCell ⟨Z, 0, none⟩ (.int .u8 (r.k : Int))).setCell ⟨Z, 1, none⟩ (.int .u8 0)).setCell ⟨Z, 2, none⟩ (.int .u64 0)).setCell ⟨Z, 3, none⟩ (.int .u64 0)).setCell ⟨Z, 4, none⟩ (.int .u64 0)).setCell ⟨Z, 5, none⟩ (.string ⟨#[]⟩)).setCell ⟨Z, 6, none⟩ (.string ⟨#[]⟩)).setCell ⟨Z, 7, none⟩ (.string ⟨#[]⟩)) [boxP G 24 r.cs, boxP Z 24 (Rq.mk (r.k) 0 0 0 0 ⟨#[]⟩ ⟨#[]⟩ ⟨#[]⟩).cs, boxP Y 24 #[.int .u8 (r.k : Int), .int .u8 0, .int .u64 0, .int .u64 0, .int .u64 0, .string ⟨#[]⟩, .string ⟨#[]⟩, .string ⟨#[]⟩]]) := Lib.hid (own_fill hO.out 1 rfl (cs := #[.int .u8 0, .int .u8 0, .int .u64 0, .int .u64 0, .int .u64 0, .string ⟨#[]⟩, .string ⟨#[]⟩, .string ⟨#[]⟩]) rfl (Rq.mk (r.k) 0 0 0 0 ⟨#[]⟩ ⟨#[]⟩ ⟨#[]⟩))
    obtain ⟨W3, hW3⟩ : ∃ W3, ((((((((wn.setCell ⟨Z, 0, none⟩ (.int .u8 (r.k : Int))).setCell ⟨Z, 1, none⟩ (.int .u8 0)).setCell ⟨Z, 2, none⟩ (.int .u64 0)).setCell ⟨Z, 3, none⟩ (.int .u64 0)).setCell ⟨Z, 4, none⟩ (.int .u64 0)).setCell ⟨Z, 5, none⟩ (.string ⟨#[]⟩)).setCell ⟨Z, 6, none⟩ (.string ⟨#[]⟩)).setCell ⟨Z, 7, none⟩ (.string ⟨#[]⟩)) = W3 := ⟨_, rfl⟩
    rw [hW3] at hF
    clear hO
    go_wp2
    try rw [hW3]
    clear hW3 z0 z0z y0 z1 z1z y1 z2 z2z y2 z3 z3z y3 z4 z4z y4 z5 z5z y5 z6 z6z y6 z7 z7z y7
    have x0 := (own_cellB hF.out 1 rfl 0 (u := .int .u8 (r.k : Int)) rfl).1
    have x1 := (own_cellB hF.out 1 rfl 1 (u := .int .u8 0) rfl).1
    have x2 := (own_cellB hF.out 1 rfl 2 (u := .int .u64 0) rfl).1
    have x3 := (own_cellB hF.out 1 rfl 3 (u := .int .u64 0) rfl).1
    have x4 := (own_cellB hF.out 1 rfl 4 (u := .int .u64 0) rfl).1
    have x5 := (own_cellB hF.out 1 rfl 5 (u := .string ⟨#[]⟩) rfl).1
    have x6 := (own_cellB hF.out 1 rfl 6 (u := .string ⟨#[]⟩) rfl).1
    have x7 := (own_cellB hF.out 1 rfl 7 (u := .string ⟨#[]⟩) rfl).1
    exact bodyPost_ret (v := .tuple #[.agg #[.int .u8 (r.k : Int), .int .u8 0, .int .u64 0, .int .u64 0, .int .u64 0, .string ⟨#[]⟩, .string ⟨#[]⟩, .string ⟨#[]⟩], .bool false]) (by simp [results, Try.results32, go_sem, x0, x1, x2, x3, x4, x5, x6, x7]) rfl ⟨by rw [HQ.out, HI.out]; rfl, hF.out.grown⟩
end Go.Proofs.Ytlphmpimpeekcaa
end
section
/- The document's answer for requests: May. -/
namespace Go.Proofs.Ytlphmpimpeekcaa
open Go.RowKit Go.Grommet

theorem nil_eq {s : ByteArray} : ((⟨#[]⟩ : ByteArray) = s) ↔ s.size = 0 := ⟨fun h => by rw [← h]; rfl, fun h => (size_zero h).symm⟩
theorem ref_may {r : Rq} (hr : r.Ok) : (isKind r.k && (eqRq (onlyQ r) r && (decide (r.fl ≤ 7) && (decide (r.p.size ≤ 200) && (decide (r.t.size ≤ 200) && decide (r.d.size ≤ 128)))))) = mayQ r := by
  rw [Bool.eq_iff_iff]
  by_cases hi : isKind r.k = true
  · have h3 := hr.fd
    have h4 := hr.at_
    have h5 := hr.sz
    have hk : r.k = 1 ∨ r.k = 2 ∨ r.k = 3 ∨ r.k = 4 ∨ r.k = 5 ∨ r.k = 6 ∨ r.k = 7 ∨ r.k = 8 ∨ r.k = 9 ∨ r.k = 10 ∨ r.k = 11 ∨ r.k = 12 ∨ r.k = 13 := by
      unfold isKind at hi
      simp at hi
      omega
    clear hr hi
    obtain ⟨k, fl, fd, at_, sz, p, t, d⟩ := r
    simp only at hk h3 h4 h5
    rcases hk with rfl | rfl | rfl | rfl | rfl | rfl | rfl | rfl | rfl | rfl | rfl | rfl | rfl
    all_goals
      simp only [mayQ, awayL, flds, awayS, Rq.away, Rq.fits, Rq.bare, isKind, onlyQ, setF, zeroRq, eqRq_iff, Rq.mk.injEq, nil_eq, List.length_cons, List.length_nil, List.take_succ_cons, List.take_nil, List.foldl_cons, List.foldl_nil, Bool.and_eq_true, decide_eq_true_eq, beq_iff_eq, and_true, true_and, show (⟨#[]⟩ : ByteArray).size = 0 from rfl]
      omega
  · constructor
    · intro h
      simp only [Bool.and_eq_true] at h
      exact absurd h.1 hi
    · intro h
      have := isKind_may h
      exact absurd (by unfold isKind; simp; omega) hi

set_option maxRecDepth 100000 in
set_option maxHeartbeats 8000000 in
theorem RMay_any (r : Rq) (hr : r.Ok) (w : World) : Calls Try.prog 14 #[.agg r.cs] w fun e w' => e = .returned (.bool (mayQ r)) ∧ w.grownBy w' none := by
  have HM := Lib.hid (ref_may hr)
  have HR := Lib.hid (fun wx => ROnly_any r wx)
  generalize onlyQ r = x at HM HR
  obtain ⟨ik, hik⟩ : ∃ ik, isKind r.k = ik := ⟨_, rfl⟩
  rw [hik] at HM HR
  have hag : ∀ wx, (binOp BinOp.eql 24 (.agg #[.int .u8 (x.k : Int), .int .u8 (x.fl : Int), .int .u64 (x.fd : Int), .int .u64 (x.at_ : Int), .int .u64 (x.sz : Int), .string x.p, .string x.t, .string x.d]) (.agg #[.int .u8 (r.k : Int), .int .u8 (r.fl : Int), .int .u64 (r.fd : Int), .int .u64 (r.at_ : Int), .int .u64 (r.sz : Int), .string r.p, .string r.t, .string r.d])).run Try.prog wx = .ok (.bool (eqRq x r)) wx := fun wx => agg_eq x r wx
  obtain ⟨eb, heb⟩ : ∃ eb, eqRq x r = eb := ⟨_, rfl⟩
  rw [heb] at HM hag
  unfold Rq.cs at HR
  clear hik heb hr
  have hO := (Own.nil w).addBox 24 r.cs
  obtain ⟨G, hG⟩ : ∃ G, w.heap.size = G := ⟨_, rfl⟩
  rw [hG] at hO
  go_enter Try.func14, Try.ntmps14
  go_upto_region 1 with fail
  try (change Code.wp _ _ _ _ (w.alloc (.cells r.cs 24)))
  try rw [hG]
  generalize World.alloc _ _ = w1 at *
  clear hG
  replace hO := Lib.hid hO
  have c0 := (own_cellB hO.out 0 rfl 0 (u := .int .u8 (r.k : Int)) rfl).1
  have c1 := (own_cellB hO.out 0 rfl 1 (u := .int .u8 (r.fl : Int)) rfl).1
  have c2 := (own_cellB hO.out 0 rfl 2 (u := .int .u64 (r.fd : Int)) rfl).1
  have c3 := (own_cellB hO.out 0 rfl 3 (u := .int .u64 (r.at_ : Int)) rfl).1
  have c4 := (own_cellB hO.out 0 rfl 4 (u := .int .u64 (r.sz : Int)) rfl).1
  have c5 := (own_cellB hO.out 0 rfl 5 (u := .string r.p) rfl).1
  have c6 := (own_cellB hO.out 0 rfl 6 (u := .string r.t) rfl).1
  have c7 := (own_cellB hO.out 0 rfl 7 (u := .string r.d) rfl).1
  go_wp2_with fail
  refine (HR.out _).mono ?_
  rintro e w2 ⟨rfl, hg⟩
  replace hO := Lib.hid (hO.out.quiet hg)
  clear hg HR c0 c1 c2 c3 c4 c5 c6 c7
  have hOn := hO.out.addBox 24 #[.int .u8 (x.k : Int), .int .u8 (x.fl : Int), .int .u64 (x.fd : Int), .int .u64 (x.at_ : Int), .int .u64 (x.sz : Int), .string x.p, .string x.t, .string x.d]
  obtain ⟨X, hX⟩ : ∃ X, w2.heap.size = X := ⟨_, rfl⟩
  rw [hX] at hOn
  go_upto_region 2 with fail
  generalize World.alloc _ _ = w3 at hOn ⊢
  replace hO := Lib.hid hOn
  clear hOn hX
  have c0 := (own_cellB hO.out 0 rfl 0 (u := .int .u8 (r.k : Int)) rfl).1
  have c1 := (own_cellB hO.out 0 rfl 1 (u := .int .u8 (r.fl : Int)) rfl).1
  have c2 := (own_cellB hO.out 0 rfl 2 (u := .int .u64 (r.fd : Int)) rfl).1
  have c3 := (own_cellB hO.out 0 rfl 3 (u := .int .u64 (r.at_ : Int)) rfl).1
  have c4 := (own_cellB hO.out 0 rfl 4 (u := .int .u64 (r.sz : Int)) rfl).1
  have c5 := (own_cellB hO.out 0 rfl 5 (u := .string r.p) rfl).1
  have c6 := (own_cellB hO.out 0 rfl 6 (u := .string r.t) rfl).1
  have c7 := (own_cellB hO.out 0 rfl 7 (u := .string r.d) rfl).1
  have x0 := (own_cellB hO.out 1 rfl 0 (u := .int .u8 (x.k : Int)) rfl).1
  have x1 := (own_cellB hO.out 1 rfl 1 (u := .int .u8 (x.fl : Int)) rfl).1
  have x2 := (own_cellB hO.out 1 rfl 2 (u := .int .u64 (x.fd : Int)) rfl).1
  have x3 := (own_cellB hO.out 1 rfl 3 (u := .int .u64 (x.at_ : Int)) rfl).1
  have x4 := (own_cellB hO.out 1 rfl 4 (u := .int .u64 (x.sz : Int)) rfl).1
  have x5 := (own_cellB hO.out 1 rfl 5 (u := .string x.p) rfl).1
  have x6 := (own_cellB hO.out 1 rfl 6 (u := .string x.t) rfl).1
  have x7 := (own_cellB hO.out 1 rfl 7 (u := .string x.d) rfl).1
  cases ik
  · have HA : Hid (mayQ r = false) := Lib.hid (by rw [← HM.out]; rfl)
    clear HM
    go_wp2
    go_ret
    exact ⟨by rw [HA.out]; rfl, hO.out.grown⟩
  · cases eb
    · have HA : Hid (mayQ r = false) := Lib.hid (by rw [← HM.out]; rfl)
      clear HM
      go_wp2
      go_ret
      exact ⟨by rw [HA.out]; rfl, hO.out.grown⟩
    · skip
      by_cases q0 : (r.fl : Int) ≤ 7
      · skip
        by_cases q1 : (r.p.size : Int) ≤ 200
        · skip
          by_cases q2 : (r.t.size : Int) ≤ 200
          · skip
            by_cases q3 : (r.d.size : Int) ≤ 128
            · skip
              have HA : Hid (mayQ r = true) := Lib.hid (by rw [← HM.out]; simp; omega)
              clear HM
              go_wp2
              go_ret
              exact ⟨by rw [HA.out]; rfl, hO.out.grown⟩
            · skip
              have HA : Hid (mayQ r = false) := Lib.hid (by rw [← HM.out]; simp; omega)
              clear HM
              go_wp2
              go_ret
              exact ⟨by rw [HA.out]; rfl, hO.out.grown⟩
          · skip
            have HA : Hid (mayQ r = false) := Lib.hid (by rw [← HM.out]; simp; omega)
            clear HM
            go_wp2
            go_ret
            exact ⟨by rw [HA.out]; rfl, hO.out.grown⟩
        · skip
          have HA : Hid (mayQ r = false) := Lib.hid (by rw [← HM.out]; simp; omega)
          clear HM
          go_wp2
          go_ret
          exact ⟨by rw [HA.out]; rfl, hO.out.grown⟩
      · skip
        have HA : Hid (mayQ r = false) := Lib.hid (by rw [← HM.out]; simp; omega)
        clear HM
        go_wp2
        go_ret
        exact ⟨by rw [HA.out]; rfl, hO.out.grown⟩
end Go.Proofs.Ytlphmpimpeekcaa
end
section
/- The document's answer for requests: Put. -/
namespace Go.Proofs.Ytlphmpimpeekcaa
open Go.RowKit Go.Grommet

set_option maxRecDepth 100000 in
set_option maxHeartbeats 16000000 in
theorem RPut_any (r : Rq) (hr : r.Ok) (hf : r.Few) (w : World) : Calls Try.prog 16 #[.agg r.cs] w (MadeIs w (putQ r)) := by
  have hO0 := (Own.nil w).addBox 24 r.cs
  obtain ⟨G, hG⟩ : ∃ G, w.heap.size = G := ⟨_, rfl⟩
  rw [hG] at hO0
  have HM := Lib.hid (fun wx => RMay_any r hr wx)
  have Hr := Lib.hid hr
  have Hf := Lib.hid hf
  unfold Rq.cs at HM
  obtain ⟨m, hm⟩ : ∃ m, mayQ r = m := ⟨_, rfl⟩
  rw [hm] at HM
  clear hr hf
  go_enter Try.func16, Try.ntmps16
  go_upto_region 1 with fail
  try (change Code.wp _ _ _ _ (w.alloc (.cells r.cs 24)))
  generalize World.alloc _ _ = w1 at *
  replace hO0 := Lib.hid hO0
  have c0 := (own_cellB hO0.out 0 rfl 0 (u := .int .u8 (r.k : Int)) rfl).1
  have c1 := (own_cellB hO0.out 0 rfl 1 (u := .int .u8 (r.fl : Int)) rfl).1
  have c2 := (own_cellB hO0.out 0 rfl 2 (u := .int .u64 (r.fd : Int)) rfl).1
  have c3 := (own_cellB hO0.out 0 rfl 3 (u := .int .u64 (r.at_ : Int)) rfl).1
  have c4 := (own_cellB hO0.out 0 rfl 4 (u := .int .u64 (r.sz : Int)) rfl).1
  have c5 := (own_cellB hO0.out 0 rfl 5 (u := .string r.p) rfl).1
  have c6 := (own_cellB hO0.out 0 rfl 6 (u := .string r.t) rfl).1
  have c7 := (own_cellB hO0.out 0 rfl 7 (u := .string r.d) rfl).1
  go_wp2_with fail
  refine (HM.out _).mono ?_
  rintro e w3 ⟨rfl, hg⟩
  replace hO0 := Lib.hid (hO0.out.quiet hg)
  clear hg HM c0 c1 c2 c3 c4 c5 c6 c7 hG
  cases m
  · have Hfin : Hid (MadeIs w (putQ r) (.returned (.slice none 0 0)) w3) := Lib.hid (by rw [putQ_no hm]; exact ⟨none, 0, rfl, At.nil _ _, fun _ => ⟨rfl, rfl⟩, ⟨Nat.le_refl _, fun _ e => by cases e⟩, hO0.out.grown⟩)
    clear hO0
    go_wp2
    go_ret
    exact Hfin.out
  · have c0 := (own_cellB hO0.out 0 rfl 0 (u := .int .u8 (r.k : Int)) rfl).1
    obtain ⟨k1, k13⟩ := isKind_may hm
    have hkk : r.k = 1 ∨ r.k = 2 ∨ r.k = 3 ∨ r.k = 4 ∨ r.k = 5 ∨ r.k = 6 ∨ r.k = 7 ∨ r.k = 8 ∨ r.k = 9 ∨ r.k = 10 ∨ r.k = 11 ∨ r.k = 12 ∨ r.k = 13 := by omega
    clear k1 k13
    have hat : At (w3.alloc (.cells #[.int .u8 (r.k : Int)] 5)) (some ⟨w3.heap.size, 0, none⟩) ([UInt8.ofNat r.k].map bv) := by
      have h1 := heap_alloc_new w3 (.cells #[.int .u8 (r.k : Int)] 5)
      have hk : (UInt8.ofNat r.k).toNat = r.k := by have := Hr.out.k; rw [UInt8.toNat_ofNat']; omega
      intro j u hu
      cases j with
      | succ j => simp at hu
      | zero =>
        simp [bv, hk] at hu
        subst hu
        exact ⟨_, _, rfl, by unfold World.cell?; rw [show w3.heap.size = w3.heap.size from rfl, h1]; rfl⟩
    have hO1 := hO0.out.quiet (World.grownBy_alloc w3 (.cells #[.int .u8 (r.k : Int)] 5) none)
    obtain ⟨E, hE⟩ : ∃ E, w3.heap.size = E := ⟨_, rfl⟩
    rw [hE] at hat
    go_upto_region 4 with fail
    generalize World.alloc _ _ = w2 at hO1 hat ⊢
    clear hO0 c0 hE
    have c0 := (own_cellB hO1 0 rfl 0 (u := .int .u8 (r.k : Int)) rfl).1
    have c1 := (own_cellB hO1 0 rfl 1 (u := .int .u8 (r.fl : Int)) rfl).1
    have c2 := (own_cellB hO1 0 rfl 2 (u := .int .u64 (r.fd : Int)) rfl).1
    have c3 := (own_cellB hO1 0 rfl 3 (u := .int .u64 (r.at_ : Int)) rfl).1
    have c4 := (own_cellB hO1 0 rfl 4 (u := .int .u64 (r.sz : Int)) rfl).1
    have c5 := (own_cellB hO1 0 rfl 5 (u := .string r.p) rfl).1
    have c6 := (own_cellB hO1 0 rfl 6 (u := .string r.t) rfl).1
    have c7 := (own_cellB hO1 0 rfl 7 (u := .string r.d) rfl).1
    have hgw := Lib.hid hO1.grown
    obtain ⟨X0, hX0⟩ : ∃ X : List UInt8, X = [UInt8.ofNat r.k] := ⟨_, rfl⟩
    rw [← hX0] at hat
    have HL0 : Hid (X0.length ≤ 200100) := Lib.hid (by rw [hX0]; simp)
    have Hl0 : Hid (X0.length = 1) := Lib.hid (by rw [hX0]; rfl)
    have HA0 := Lib.hid hat
    have H0 := Lib.hid hX0
    clear hO1 hX0 hat
    rcases hkk with hk | hk | hk | hk | hk | hk | hk | hk | hk | hk | hk | hk | hk
    · have hq : putQ r = putL r 2 := by unfold putQ; rw [if_pos hm, hk]; rfl
      have hfin : putL r 2 = UInt8.ofNat r.k :: ((num r.p.size ++ bytesOf r.p) ++ num r.fl) := by simp [putL, hk, flds, Rq.put]
      have Hq := Lib.hid (hq.trans hfin)
      clear hq hfin hm
      have q1 : ((r.k : Int) == 1) = true := by rw [hk]; rfl
      have q2 : ((r.k : Int) == 2) = false := by rw [hk]; rfl
      have q3 : ((r.k : Int) == 3) = false := by rw [hk]; rfl
      have q4 : ((r.k : Int) == 4) = false := by rw [hk]; rfl
      have q5 : ((r.k : Int) == 5) = false := by rw [hk]; rfl
      have q6 : ((r.k : Int) == 6) = false := by rw [hk]; rfl
      have q10 : ((r.k : Int) == 10) = false := by rw [hk]; rfl
      have q12 : ((r.k : Int) == 12) = false := by rw [hk]; rfl
      have q13 : ((r.k : Int) == 13) = false := by rw [hk]; rfl
      obtain ⟨k, hkk⟩ : ∃ k, r.k = k := ⟨_, rfl⟩
      rw [hkk] at q1 q2 q3 q4 q5 q6 q10 q12 q13 c0
      clear hk
      have HN0 := Lib.hid (fun wx ad cap (a1 : At wx ad ((X0 : List UInt8).map bv)) a2 (a3 : 1 ≤ 200100) => RText_any ad 1 cap X0 r.p wx Hl0.out a1 a2 (by omega) (by have := Hf.out.p; omega))
      obtain ⟨X1, hX1⟩ : ∃ X, X0 ++ num r.p.size ++ bytesOf r.p = X := ⟨_, rfl⟩
      rw [hX1] at HN0
      have HN1 := Lib.hid (fun wx ad cap (a1 : At wx ad ((X1 : List UInt8).map bv)) a2 (a3 : (X1 : List UInt8).length ≤ 200100) => RNumber_any ad (X1 : List UInt8).length cap X1 r.fl wx (by have := Hr.out.fl; omega) rfl a1 a2 (by omega))
      obtain ⟨X2, hX2⟩ : ∃ X, X1 ++ num r.fl = X := ⟨_, rfl⟩
      rw [hX2] at HN1
      have wf : IntKind.u64.wrap (r.fl : Int) = (r.fl : Int) := IntWalk.u64_in _ ⟨by omega, by have := Hr.out.fl; omega⟩
      have HX : Hid (X2 = putQ r) := Lib.hid (by rw [Hq.out, ← hX2, ← hX1, H0.out]; simp)
      have HL : Hid (X1.length ≤ 200100) := Lib.hid (by rw [← hX1, H0.out]; have := put_len Hr.out Hf.out .path; simp only [Rq.put, List.length_append] at this; simp only [List.length_append, List.length_cons, List.length_nil] at this ⊢; omega)
      clear hX1 hX2 hkk
      go_upto_region 6 with fail
      refine wp_region_held_drew (S := fun wx => World.grownBy w2 wx none) (by kernel_rfl) (grown_drew (World.grownBy.refl _ none)) (fun hS => ?_)
      generalize World.drew _ = wD at hS ⊢
      refine wpAnyH_take (i := 0) (oi := { dst := some 14, op := Op.move (Operand.tmp 3), type := 25, pos := "ref.go:61", after := #[], guard := none }) (v := ?vrp116r6o0n1) rfl (by kernel_rfl) (by kernel_rfl) (by kernel_rfl) (fun _ _ _ h => h) (Or.inl ⟨by rfl, ?hrp116r6o0n1⟩) hS ?_
      case hrp116r6o0n1 => (intro wx hx; skip; go_simp; (try with_reducible rfl))
      try simp only [Act.put, List.setIfInBounds_toArray, List.set_cons_zero, List.set_cons_succ]
      refine wpAnyH_take (i := 1) (oi := { dst := some 15, op := Op.fieldAddr 24 (Operand.tmp 1) 5, type := 0, pos := "ref.go:61", after := #[], guard := none }) (v := ?vrp116r6o1n2) rfl (by kernel_rfl) (by kernel_rfl) (by kernel_rfl) (fun _ _ _ h => h) (Or.inl ⟨by rfl, ?hrp116r6o1n2⟩) hS ?_
      case hrp116r6o1n2 => (intro wx hx; skip; go_simp; (try with_reducible rfl))
      try simp only [Act.put, List.setIfInBounds_toArray, List.set_cons_zero, List.set_cons_succ]
      refine wpAnyH_take (i := 2) (oi := { dst := some 16, op := Op.load 9 (Operand.tmp 15), type := 9, pos := "ref.go:61", after := #[{ on := 1, ground := Ground.data }], guard := none }) (v := ?vrp116r6o2n3) rfl (by kernel_rfl) (by kernel_rfl) (by kernel_rfl) (fun _ _ _ h => h) (Or.inl ⟨by rfl, ?hrp116r6o2n3⟩) hS ?_
      case hrp116r6o2n3 => (intro wx hx; have y0 := hx.cell c0 (by simp); have y1 := hx.cell c1 (by simp); have y2 := hx.cell c2 (by simp); have y3 := hx.cell c3 (by simp); have y4 := hx.cell c4 (by simp); have y5 := hx.cell c5 (by simp); have y6 := hx.cell c6 (by simp); have y7 := hx.cell c7 (by simp); go_simp; (try with_reducible rfl))
      try simp only [Act.put, List.setIfInBounds_toArray, List.set_cons_zero, List.set_cons_succ]
      refine wpAnyH_take (i := 4) (oi := { dst := some 18, op := Op.fieldAddr 24 (Operand.tmp 1) 1, type := 0, pos := "ref.go:61", after := #[], guard := none }) (v := ?vrp116r6o4n4) rfl (by kernel_rfl) (by kernel_rfl) (by kernel_rfl) (fun _ _ _ h => h) (Or.inl ⟨by rfl, ?hrp116r6o4n4⟩) hS ?_
      case hrp116r6o4n4 => (intro wx hx; skip; go_simp; (try with_reducible rfl))
      try simp only [Act.put, List.setIfInBounds_toArray, List.set_cons_zero, List.set_cons_succ]
      refine wpAnyH_take (i := 5) (oi := { dst := some 19, op := Op.load 5 (Operand.tmp 18), type := 5, pos := "ref.go:61", after := #[{ on := 4, ground := Ground.data }], guard := none }) (v := ?vrp116r6o5n5) rfl (by kernel_rfl) (by kernel_rfl) (by kernel_rfl) (fun _ _ _ h => h) (Or.inl ⟨by rfl, ?hrp116r6o5n5⟩) hS ?_
      case hrp116r6o5n5 => (intro wx hx; have y0 := hx.cell c0 (by simp); have y1 := hx.cell c1 (by simp); have y2 := hx.cell c2 (by simp); have y3 := hx.cell c3 (by simp); have y4 := hx.cell c4 (by simp); have y5 := hx.cell c5 (by simp); have y6 := hx.cell c6 (by simp); have y7 := hx.cell c7 (by simp); go_simp; (try with_reducible rfl))
      try simp only [Act.put, List.setIfInBounds_toArray, List.set_cons_zero, List.set_cons_succ]
      refine wpAnyH_take (i := 6) (oi := { dst := some 20, op := Op.convert 5 22 (Operand.tmp 19), type := 22, pos := "ref.go:61", after := #[{ on := 5, ground := Ground.data }], guard := none }) (v := ?vrp116r6o6n6) rfl (by kernel_rfl) (by kernel_rfl) (by kernel_rfl) (fun _ _ _ h => h) (Or.inl ⟨by rfl, ?hrp116r6o6n6⟩) hS ?_
      case hrp116r6o6n6 => (intro wx hx; have y0 := hx.cell c0 (by simp); have y1 := hx.cell c1 (by simp); have y2 := hx.cell c2 (by simp); have y3 := hx.cell c3 (by simp); have y4 := hx.cell c4 (by simp); have y5 := hx.cell c5 (by simp); have y6 := hx.cell c6 (by simp); have y7 := hx.cell c7 (by simp); go_simp; (try with_reducible rfl))
      try simp only [Act.put, List.setIfInBounds_toArray, List.set_cons_zero, List.set_cons_succ]
      refine wpAnyH_ready (rs := [3]) (by kernel_rfl) (by simp) ?_
      refine AllReadyH.cons (o := { dst := some 17, op := Op.call { callee := Callee.value (Operand.func 38), args := #[Operand.tmp 14, Operand.tmp 16], argTypes := #[25, 9] }, type := 25, pos := "ref.go:61", after := #[{ on := 0, ground := Ground.data }, { on := 2, ground := Ground.data }], guard := none }) rfl (fun K hK => ?_) AllReadyH.nil
      go_simp
      refine (HN0.out _ _ _ (HA0.out.grown hS (fun _ _ _ => by simp)) (fun e => by cases e) (by decide)).mono ?_
      rintro e v0 ⟨ad0, cap0, rfl, a1, a2, ⟨a4, a3⟩, hg⟩
      have hS1 := grown_trans hS hg
      have HA1 := Lib.hid (And.intro a1 a2)
      clear a1 a2 a3 a4 hg
      refine hK.out _ _ ?hsrp116r6o3n7 (fun hS => ?_)
      case hsrp116r6o3n7 => (exact hS1)
      clear hK K
      try simp only [Act.put, List.setIfInBounds_toArray, List.set_cons_zero, List.set_cons_succ]
      refine wpAnyH_ready (rs := [7]) (by kernel_rfl) (by simp) ?_
      refine AllReadyH.cons (o := { dst := some 21, op := Op.call { callee := Callee.value (Operand.func 37), args := #[Operand.tmp 17, Operand.tmp 20], argTypes := #[25, 22] }, type := 25, pos := "ref.go:61", after := #[{ on := 3, ground := Ground.data }, { on := 6, ground := Ground.data }, { on := 3, ground := Ground.chain }], guard := none }) rfl (fun K hK => ?_) AllReadyH.nil
      go_simp
      refine (HN1.out _ _ _ HA1.out.1 HA1.out.2 HL.out).mono ?_
      rintro e v1 ⟨ad1, cap1, rfl, a1, a2, ⟨a4, a3⟩, hg⟩
      have hS1 := grown_trans hS hg
      have Hfin : Hid (MadeIs w X2 (.returned (.slice ad1 X2.length cap1)) v1) := Lib.hid (made_quiet hgw.out (made_quiet hS ⟨ad1, cap1, rfl, a1, a2, ⟨a4, a3⟩, hg⟩))
      clear a1 a2 a3 a4 hg
      refine hK.out _ _ ?hsrp116r6o7n8 (fun hS => ?_)
      case hsrp116r6o7n8 => (exact hS1)
      clear hK K
      try simp only [Act.put, List.setIfInBounds_toArray, List.set_cons_zero, List.set_cons_succ]
      refine wpAnyH_take (i := 8) (oi := { dst := some 2, op := Op.assign (Operand.tmp 21), type := 25, pos := "ref.go:61", after := #[{ on := 7, ground := Ground.data }, { on := 7, ground := Ground.chain }, { on := 0, ground := Ground.phase }, { on := 1, ground := Ground.phase }, { on := 2, ground := Ground.phase }, { on := 3, ground := Ground.phase }, { on := 4, ground := Ground.phase }, { on := 5, ground := Ground.phase }, { on := 6, ground := Ground.phase }, { on := 7, ground := Ground.phase }], guard := none }) (v := ?vrp116r6o8n9) rfl (by kernel_rfl) (by kernel_rfl) (by kernel_rfl) (fun _ _ _ h => h) (Or.inl ⟨by rfl, ?hrp116r6o8n9⟩) hS ?_
      case hrp116r6o8n9 => (intro wx hx; skip; go_simp; (try with_reducible rfl))
      try simp only [Act.put, List.setIfInBounds_toArray, List.set_cons_zero, List.set_cons_succ]
      refine wpAnyH_done (by kernel_rfl) ?_ _
      go_wp2
      go_ret
      rw [← HX.out]
      exact Hfin.out
    · have hq : putQ r = putL r 1 := by unfold putQ; rw [if_pos hm, hk]; rfl
      have hfin : putL r 1 = UInt8.ofNat r.k :: (num r.fd) := by simp [putL, hk, flds, Rq.put]
      have Hq := Lib.hid (hq.trans hfin)
      clear hq hfin hm
      have q1 : ((r.k : Int) == 1) = false := by rw [hk]; rfl
      have q2 : ((r.k : Int) == 2) = true := by rw [hk]; rfl
      have q3 : ((r.k : Int) == 3) = false := by rw [hk]; rfl
      have q4 : ((r.k : Int) == 4) = false := by rw [hk]; rfl
      have q5 : ((r.k : Int) == 5) = false := by rw [hk]; rfl
      have q6 : ((r.k : Int) == 6) = false := by rw [hk]; rfl
      have q10 : ((r.k : Int) == 10) = false := by rw [hk]; rfl
      have q12 : ((r.k : Int) == 12) = false := by rw [hk]; rfl
      have q13 : ((r.k : Int) == 13) = false := by rw [hk]; rfl
      obtain ⟨k, hkk⟩ : ∃ k, r.k = k := ⟨_, rfl⟩
      rw [hkk] at q1 q2 q3 q4 q5 q6 q10 q12 q13 c0
      clear hk
      have HN0 := Lib.hid (fun wx ad cap (a1 : At wx ad ((X0 : List UInt8).map bv)) a2 (a3 : 1 ≤ 200100) => RNumber_any ad 1 cap X0 r.fd wx (by have := Hr.out.fd; omega) Hl0.out a1 a2 (by omega))
      obtain ⟨X1, hX1⟩ : ∃ X, X0 ++ num r.fd = X := ⟨_, rfl⟩
      rw [hX1] at HN0
      have HX : Hid (X1 = putQ r) := Lib.hid (by rw [Hq.out, ← hX1, H0.out]; simp)
      clear hX1 hkk
      go_wp2_with fail
      refine (HN0.out _ _ _ HA0.out (fun e => by cases e) (by decide)).mono ?_
      rintro e v0 ⟨ad0, cap0, rfl, a1, a2, ⟨a4, a3⟩, hg⟩
      have Hfin : Hid (MadeIs w X1 (.returned (.slice ad0 X1.length cap0)) v0) := Lib.hid (made_quiet hgw.out ⟨ad0, cap0, rfl, a1, a2, ⟨a4, a3⟩, hg⟩)
      clear a1 a2 a3 a4 hg
      go_wp2
      go_ret
      rw [← HX.out]
      exact Hfin.out
    · have hq : putQ r = putL r 2 := by unfold putQ; rw [if_pos hm, hk]; rfl
      have hfin : putL r 2 = UInt8.ofNat r.k :: (num r.fd ++ num r.sz) := by simp [putL, hk, flds, Rq.put]
      have Hq := Lib.hid (hq.trans hfin)
      clear hq hfin hm
      have q1 : ((r.k : Int) == 1) = false := by rw [hk]; rfl
      have q2 : ((r.k : Int) == 2) = false := by rw [hk]; rfl
      have q3 : ((r.k : Int) == 3) = true := by rw [hk]; rfl
      have q4 : ((r.k : Int) == 4) = false := by rw [hk]; rfl
      have q5 : ((r.k : Int) == 5) = false := by rw [hk]; rfl
      have q6 : ((r.k : Int) == 6) = false := by rw [hk]; rfl
      have q10 : ((r.k : Int) == 10) = false := by rw [hk]; rfl
      have q12 : ((r.k : Int) == 12) = false := by rw [hk]; rfl
      have q13 : ((r.k : Int) == 13) = false := by rw [hk]; rfl
      obtain ⟨k, hkk⟩ : ∃ k, r.k = k := ⟨_, rfl⟩
      rw [hkk] at q1 q2 q3 q4 q5 q6 q10 q12 q13 c0
      clear hk
      have HN0 := Lib.hid (fun wx ad cap (a1 : At wx ad ((X0 : List UInt8).map bv)) a2 (a3 : 1 ≤ 200100) => RNumber_any ad 1 cap X0 r.fd wx (by have := Hr.out.fd; omega) Hl0.out a1 a2 (by omega))
      obtain ⟨X1, hX1⟩ : ∃ X, X0 ++ num r.fd = X := ⟨_, rfl⟩
      rw [hX1] at HN0
      have HN1 := Lib.hid (fun wx ad cap (a1 : At wx ad ((X1 : List UInt8).map bv)) a2 (a3 : (X1 : List UInt8).length ≤ 200100) => RNumber_any ad (X1 : List UInt8).length cap X1 r.sz wx (by have := Hr.out.sz; omega) rfl a1 a2 (by omega))
      obtain ⟨X2, hX2⟩ : ∃ X, X1 ++ num r.sz = X := ⟨_, rfl⟩
      rw [hX2] at HN1
      have HX : Hid (X2 = putQ r) := Lib.hid (by rw [Hq.out, ← hX2, ← hX1, H0.out]; simp)
      have HL : Hid (X1.length ≤ 200100) := Lib.hid (by rw [← hX1, H0.out]; have := put_len Hr.out Hf.out .fd; simp only [Rq.put] at this; simp only [List.length_append, List.length_cons, List.length_nil] at this ⊢; omega)
      clear hX1 hX2 hkk
      go_upto_region 10 with fail
      refine wp_region_held_drew (S := fun wx => World.grownBy w2 wx none) (by kernel_rfl) (grown_drew (World.grownBy.refl _ none)) (fun hS => ?_)
      generalize World.drew _ = wD at hS ⊢
      refine wpAnyH_take (i := 0) (oi := { dst := some 30, op := Op.move (Operand.tmp 3), type := 25, pos := "ref.go:65", after := #[], guard := none }) (v := ?vrp316r10o0n1) rfl (by kernel_rfl) (by kernel_rfl) (by kernel_rfl) (fun _ _ _ h => h) (Or.inl ⟨by rfl, ?hrp316r10o0n1⟩) hS ?_
      case hrp316r10o0n1 => (intro wx hx; skip; go_simp; (try with_reducible rfl))
      try simp only [Act.put, List.setIfInBounds_toArray, List.set_cons_zero, List.set_cons_succ]
      refine wpAnyH_take (i := 1) (oi := { dst := some 31, op := Op.fieldAddr 24 (Operand.tmp 1) 2, type := 0, pos := "ref.go:65", after := #[], guard := none }) (v := ?vrp316r10o1n2) rfl (by kernel_rfl) (by kernel_rfl) (by kernel_rfl) (fun _ _ _ h => h) (Or.inl ⟨by rfl, ?hrp316r10o1n2⟩) hS ?_
      case hrp316r10o1n2 => (intro wx hx; skip; go_simp; (try with_reducible rfl))
      try simp only [Act.put, List.setIfInBounds_toArray, List.set_cons_zero, List.set_cons_succ]
      refine wpAnyH_take (i := 2) (oi := { dst := some 32, op := Op.load 22 (Operand.tmp 31), type := 22, pos := "ref.go:65", after := #[{ on := 1, ground := Ground.data }], guard := none }) (v := ?vrp316r10o2n3) rfl (by kernel_rfl) (by kernel_rfl) (by kernel_rfl) (fun _ _ _ h => h) (Or.inl ⟨by rfl, ?hrp316r10o2n3⟩) hS ?_
      case hrp316r10o2n3 => (intro wx hx; have y0 := hx.cell c0 (by simp); have y1 := hx.cell c1 (by simp); have y2 := hx.cell c2 (by simp); have y3 := hx.cell c3 (by simp); have y4 := hx.cell c4 (by simp); have y5 := hx.cell c5 (by simp); have y6 := hx.cell c6 (by simp); have y7 := hx.cell c7 (by simp); go_simp; (try with_reducible rfl))
      try simp only [Act.put, List.setIfInBounds_toArray, List.set_cons_zero, List.set_cons_succ]
      refine wpAnyH_take (i := 4) (oi := { dst := some 34, op := Op.fieldAddr 24 (Operand.tmp 1) 4, type := 0, pos := "ref.go:65", after := #[], guard := none }) (v := ?vrp316r10o4n4) rfl (by kernel_rfl) (by kernel_rfl) (by kernel_rfl) (fun _ _ _ h => h) (Or.inl ⟨by rfl, ?hrp316r10o4n4⟩) hS ?_
      case hrp316r10o4n4 => (intro wx hx; skip; go_simp; (try with_reducible rfl))
      try simp only [Act.put, List.setIfInBounds_toArray, List.set_cons_zero, List.set_cons_succ]
      refine wpAnyH_take (i := 5) (oi := { dst := some 35, op := Op.load 22 (Operand.tmp 34), type := 22, pos := "ref.go:65", after := #[{ on := 4, ground := Ground.data }], guard := none }) (v := ?vrp316r10o5n5) rfl (by kernel_rfl) (by kernel_rfl) (by kernel_rfl) (fun _ _ _ h => h) (Or.inl ⟨by rfl, ?hrp316r10o5n5⟩) hS ?_
      case hrp316r10o5n5 => (intro wx hx; have y0 := hx.cell c0 (by simp); have y1 := hx.cell c1 (by simp); have y2 := hx.cell c2 (by simp); have y3 := hx.cell c3 (by simp); have y4 := hx.cell c4 (by simp); have y5 := hx.cell c5 (by simp); have y6 := hx.cell c6 (by simp); have y7 := hx.cell c7 (by simp); go_simp; (try with_reducible rfl))
      try simp only [Act.put, List.setIfInBounds_toArray, List.set_cons_zero, List.set_cons_succ]
      refine wpAnyH_ready (rs := [3]) (by kernel_rfl) (by simp) ?_
      refine AllReadyH.cons (o := { dst := some 33, op := Op.call { callee := Callee.value (Operand.func 37), args := #[Operand.tmp 30, Operand.tmp 32], argTypes := #[25, 22] }, type := 25, pos := "ref.go:65", after := #[{ on := 0, ground := Ground.data }, { on := 2, ground := Ground.data }], guard := none }) rfl (fun K hK => ?_) AllReadyH.nil
      go_simp
      refine (HN0.out _ _ _ (HA0.out.grown hS (fun _ _ _ => by simp)) (fun e => by cases e) (by decide)).mono ?_
      rintro e v0 ⟨ad0, cap0, rfl, a1, a2, ⟨a4, a3⟩, hg⟩
      have hS1 := grown_trans hS hg
      have HA1 := Lib.hid (And.intro a1 a2)
      clear a1 a2 a3 a4 hg
      refine hK.out _ _ ?hsrp316r10o3n6 (fun hS => ?_)
      case hsrp316r10o3n6 => (exact hS1)
      clear hK K
      try simp only [Act.put, List.setIfInBounds_toArray, List.set_cons_zero, List.set_cons_succ]
      refine wpAnyH_ready (rs := [6]) (by kernel_rfl) (by simp) ?_
      refine AllReadyH.cons (o := { dst := some 36, op := Op.call { callee := Callee.value (Operand.func 37), args := #[Operand.tmp 33, Operand.tmp 35], argTypes := #[25, 22] }, type := 25, pos := "ref.go:65", after := #[{ on := 3, ground := Ground.data }, { on := 5, ground := Ground.data }, { on := 3, ground := Ground.chain }], guard := none }) rfl (fun K hK => ?_) AllReadyH.nil
      go_simp
      refine (HN1.out _ _ _ HA1.out.1 HA1.out.2 HL.out).mono ?_
      rintro e v1 ⟨ad1, cap1, rfl, a1, a2, ⟨a4, a3⟩, hg⟩
      have hS1 := grown_trans hS hg
      have Hfin : Hid (MadeIs w X2 (.returned (.slice ad1 X2.length cap1)) v1) := Lib.hid (made_quiet hgw.out (made_quiet hS ⟨ad1, cap1, rfl, a1, a2, ⟨a4, a3⟩, hg⟩))
      clear a1 a2 a3 a4 hg
      refine hK.out _ _ ?hsrp316r10o6n7 (fun hS => ?_)
      case hsrp316r10o6n7 => (exact hS1)
      clear hK K
      try simp only [Act.put, List.setIfInBounds_toArray, List.set_cons_zero, List.set_cons_succ]
      refine wpAnyH_take (i := 7) (oi := { dst := some 2, op := Op.assign (Operand.tmp 36), type := 25, pos := "ref.go:65", after := #[{ on := 6, ground := Ground.data }, { on := 6, ground := Ground.chain }, { on := 0, ground := Ground.phase }, { on := 1, ground := Ground.phase }, { on := 2, ground := Ground.phase }, { on := 3, ground := Ground.phase }, { on := 4, ground := Ground.phase }, { on := 5, ground := Ground.phase }, { on := 6, ground := Ground.phase }], guard := none }) (v := ?vrp316r10o7n8) rfl (by kernel_rfl) (by kernel_rfl) (by kernel_rfl) (fun _ _ _ h => h) (Or.inl ⟨by rfl, ?hrp316r10o7n8⟩) hS ?_
      case hrp316r10o7n8 => (intro wx hx; skip; go_simp; (try with_reducible rfl))
      try simp only [Act.put, List.setIfInBounds_toArray, List.set_cons_zero, List.set_cons_succ]
      refine wpAnyH_done (by kernel_rfl) ?_ _
      go_wp2
      go_ret
      rw [← HX.out]
      exact Hfin.out
    · have hq : putQ r = putL r 2 := by unfold putQ; rw [if_pos hm, hk]; rfl
      have hfin : putL r 2 = UInt8.ofNat r.k :: (num r.fd ++ (num r.d.size ++ bytesOf r.d)) := by simp [putL, hk, flds, Rq.put]
      have Hq := Lib.hid (hq.trans hfin)
      clear hq hfin hm
      have q1 : ((r.k : Int) == 1) = false := by rw [hk]; rfl
      have q2 : ((r.k : Int) == 2) = false := by rw [hk]; rfl
      have q3 : ((r.k : Int) == 3) = false := by rw [hk]; rfl
      have q4 : ((r.k : Int) == 4) = true := by rw [hk]; rfl
      have q5 : ((r.k : Int) == 5) = false := by rw [hk]; rfl
      have q6 : ((r.k : Int) == 6) = false := by rw [hk]; rfl
      have q10 : ((r.k : Int) == 10) = false := by rw [hk]; rfl
      have q12 : ((r.k : Int) == 12) = false := by rw [hk]; rfl
      have q13 : ((r.k : Int) == 13) = false := by rw [hk]; rfl
      obtain ⟨k, hkk⟩ : ∃ k, r.k = k := ⟨_, rfl⟩
      rw [hkk] at q1 q2 q3 q4 q5 q6 q10 q12 q13 c0
      clear hk
      have HN0 := Lib.hid (fun wx ad cap (a1 : At wx ad ((X0 : List UInt8).map bv)) a2 (a3 : 1 ≤ 200100) => RNumber_any ad 1 cap X0 r.fd wx (by have := Hr.out.fd; omega) Hl0.out a1 a2 (by omega))
      obtain ⟨X1, hX1⟩ : ∃ X, X0 ++ num r.fd = X := ⟨_, rfl⟩
      rw [hX1] at HN0
      have HN1 := Lib.hid (fun wx ad cap (a1 : At wx ad ((X1 : List UInt8).map bv)) a2 (a3 : (X1 : List UInt8).length ≤ 200100) => RText_any ad (X1 : List UInt8).length cap X1 r.d wx rfl a1 a2 (by omega) (by have := Hf.out.d; omega))
      obtain ⟨X2, hX2⟩ : ∃ X, X1 ++ num r.d.size ++ bytesOf r.d = X := ⟨_, rfl⟩
      rw [hX2] at HN1
      have HX : Hid (X2 = putQ r) := Lib.hid (by rw [Hq.out, ← hX2, ← hX1, H0.out]; simp)
      have HL : Hid (X1.length ≤ 200100) := Lib.hid (by rw [← hX1, H0.out]; have := put_len Hr.out Hf.out .fd; simp only [Rq.put] at this; simp only [List.length_append, List.length_cons, List.length_nil] at this ⊢; omega)
      clear hX1 hX2 hkk
      go_upto_region 12 with fail
      refine wp_region_held_drew (S := fun wx => World.grownBy w2 wx none) (by kernel_rfl) (grown_drew (World.grownBy.refl _ none)) (fun hS => ?_)
      generalize World.drew _ = wD at hS ⊢
      refine wpAnyH_take (i := 0) (oi := { dst := some 39, op := Op.move (Operand.tmp 3), type := 25, pos := "ref.go:67", after := #[], guard := none }) (v := ?vrp416r12o0n1) rfl (by kernel_rfl) (by kernel_rfl) (by kernel_rfl) (fun _ _ _ h => h) (Or.inl ⟨by rfl, ?hrp416r12o0n1⟩) hS ?_
      case hrp416r12o0n1 => (intro wx hx; skip; go_simp; (try with_reducible rfl))
      try simp only [Act.put, List.setIfInBounds_toArray, List.set_cons_zero, List.set_cons_succ]
      refine wpAnyH_take (i := 1) (oi := { dst := some 40, op := Op.fieldAddr 24 (Operand.tmp 1) 2, type := 0, pos := "ref.go:67", after := #[], guard := none }) (v := ?vrp416r12o1n2) rfl (by kernel_rfl) (by kernel_rfl) (by kernel_rfl) (fun _ _ _ h => h) (Or.inl ⟨by rfl, ?hrp416r12o1n2⟩) hS ?_
      case hrp416r12o1n2 => (intro wx hx; skip; go_simp; (try with_reducible rfl))
      try simp only [Act.put, List.setIfInBounds_toArray, List.set_cons_zero, List.set_cons_succ]
      refine wpAnyH_take (i := 2) (oi := { dst := some 41, op := Op.load 22 (Operand.tmp 40), type := 22, pos := "ref.go:67", after := #[{ on := 1, ground := Ground.data }], guard := none }) (v := ?vrp416r12o2n3) rfl (by kernel_rfl) (by kernel_rfl) (by kernel_rfl) (fun _ _ _ h => h) (Or.inl ⟨by rfl, ?hrp416r12o2n3⟩) hS ?_
      case hrp416r12o2n3 => (intro wx hx; have y0 := hx.cell c0 (by simp); have y1 := hx.cell c1 (by simp); have y2 := hx.cell c2 (by simp); have y3 := hx.cell c3 (by simp); have y4 := hx.cell c4 (by simp); have y5 := hx.cell c5 (by simp); have y6 := hx.cell c6 (by simp); have y7 := hx.cell c7 (by simp); go_simp; (try with_reducible rfl))
      try simp only [Act.put, List.setIfInBounds_toArray, List.set_cons_zero, List.set_cons_succ]
      refine wpAnyH_take (i := 4) (oi := { dst := some 43, op := Op.fieldAddr 24 (Operand.tmp 1) 7, type := 0, pos := "ref.go:67", after := #[], guard := none }) (v := ?vrp416r12o4n4) rfl (by kernel_rfl) (by kernel_rfl) (by kernel_rfl) (fun _ _ _ h => h) (Or.inl ⟨by rfl, ?hrp416r12o4n4⟩) hS ?_
      case hrp416r12o4n4 => (intro wx hx; skip; go_simp; (try with_reducible rfl))
      try simp only [Act.put, List.setIfInBounds_toArray, List.set_cons_zero, List.set_cons_succ]
      refine wpAnyH_take (i := 5) (oi := { dst := some 44, op := Op.load 9 (Operand.tmp 43), type := 9, pos := "ref.go:67", after := #[{ on := 4, ground := Ground.data }], guard := none }) (v := ?vrp416r12o5n5) rfl (by kernel_rfl) (by kernel_rfl) (by kernel_rfl) (fun _ _ _ h => h) (Or.inl ⟨by rfl, ?hrp416r12o5n5⟩) hS ?_
      case hrp416r12o5n5 => (intro wx hx; have y0 := hx.cell c0 (by simp); have y1 := hx.cell c1 (by simp); have y2 := hx.cell c2 (by simp); have y3 := hx.cell c3 (by simp); have y4 := hx.cell c4 (by simp); have y5 := hx.cell c5 (by simp); have y6 := hx.cell c6 (by simp); have y7 := hx.cell c7 (by simp); go_simp; (try with_reducible rfl))
      try simp only [Act.put, List.setIfInBounds_toArray, List.set_cons_zero, List.set_cons_succ]
      refine wpAnyH_ready (rs := [3]) (by kernel_rfl) (by simp) ?_
      refine AllReadyH.cons (o := { dst := some 42, op := Op.call { callee := Callee.value (Operand.func 37), args := #[Operand.tmp 39, Operand.tmp 41], argTypes := #[25, 22] }, type := 25, pos := "ref.go:67", after := #[{ on := 0, ground := Ground.data }, { on := 2, ground := Ground.data }], guard := none }) rfl (fun K hK => ?_) AllReadyH.nil
      go_simp
      refine (HN0.out _ _ _ (HA0.out.grown hS (fun _ _ _ => by simp)) (fun e => by cases e) (by decide)).mono ?_
      rintro e v0 ⟨ad0, cap0, rfl, a1, a2, ⟨a4, a3⟩, hg⟩
      have hS1 := grown_trans hS hg
      have HA1 := Lib.hid (And.intro a1 a2)
      clear a1 a2 a3 a4 hg
      refine hK.out _ _ ?hsrp416r12o3n6 (fun hS => ?_)
      case hsrp416r12o3n6 => (exact hS1)
      clear hK K
      try simp only [Act.put, List.setIfInBounds_toArray, List.set_cons_zero, List.set_cons_succ]
      refine wpAnyH_ready (rs := [6]) (by kernel_rfl) (by simp) ?_
      refine AllReadyH.cons (o := { dst := some 45, op := Op.call { callee := Callee.value (Operand.func 38), args := #[Operand.tmp 42, Operand.tmp 44], argTypes := #[25, 9] }, type := 25, pos := "ref.go:67", after := #[{ on := 3, ground := Ground.data }, { on := 5, ground := Ground.data }, { on := 3, ground := Ground.chain }], guard := none }) rfl (fun K hK => ?_) AllReadyH.nil
      go_simp
      refine (HN1.out _ _ _ HA1.out.1 HA1.out.2 HL.out).mono ?_
      rintro e v1 ⟨ad1, cap1, rfl, a1, a2, ⟨a4, a3⟩, hg⟩
      have hS1 := grown_trans hS hg
      have Hfin : Hid (MadeIs w X2 (.returned (.slice ad1 X2.length cap1)) v1) := Lib.hid (made_quiet hgw.out (made_quiet hS ⟨ad1, cap1, rfl, a1, a2, ⟨a4, a3⟩, hg⟩))
      clear a1 a2 a3 a4 hg
      refine hK.out _ _ ?hsrp416r12o6n7 (fun hS => ?_)
      case hsrp416r12o6n7 => (exact hS1)
      clear hK K
      try simp only [Act.put, List.setIfInBounds_toArray, List.set_cons_zero, List.set_cons_succ]
      refine wpAnyH_take (i := 7) (oi := { dst := some 2, op := Op.assign (Operand.tmp 45), type := 25, pos := "ref.go:67", after := #[{ on := 6, ground := Ground.data }, { on := 6, ground := Ground.chain }, { on := 0, ground := Ground.phase }, { on := 1, ground := Ground.phase }, { on := 2, ground := Ground.phase }, { on := 3, ground := Ground.phase }, { on := 4, ground := Ground.phase }, { on := 5, ground := Ground.phase }, { on := 6, ground := Ground.phase }], guard := none }) (v := ?vrp416r12o7n8) rfl (by kernel_rfl) (by kernel_rfl) (by kernel_rfl) (fun _ _ _ h => h) (Or.inl ⟨by rfl, ?hrp416r12o7n8⟩) hS ?_
      case hrp416r12o7n8 => (intro wx hx; skip; go_simp; (try with_reducible rfl))
      try simp only [Act.put, List.setIfInBounds_toArray, List.set_cons_zero, List.set_cons_succ]
      refine wpAnyH_done (by kernel_rfl) ?_ _
      go_wp2
      go_ret
      rw [← HX.out]
      exact Hfin.out
    · have hq : putQ r = putL r 2 := by unfold putQ; rw [if_pos hm, hk]; rfl
      have hfin : putL r 2 = UInt8.ofNat r.k :: (num r.fd ++ num r.at_) := by simp [putL, hk, flds, Rq.put]
      have Hq := Lib.hid (hq.trans hfin)
      clear hq hfin hm
      have q1 : ((r.k : Int) == 1) = false := by rw [hk]; rfl
      have q2 : ((r.k : Int) == 2) = false := by rw [hk]; rfl
      have q3 : ((r.k : Int) == 3) = false := by rw [hk]; rfl
      have q4 : ((r.k : Int) == 4) = false := by rw [hk]; rfl
      have q5 : ((r.k : Int) == 5) = true := by rw [hk]; rfl
      have q6 : ((r.k : Int) == 6) = false := by rw [hk]; rfl
      have q10 : ((r.k : Int) == 10) = false := by rw [hk]; rfl
      have q12 : ((r.k : Int) == 12) = false := by rw [hk]; rfl
      have q13 : ((r.k : Int) == 13) = false := by rw [hk]; rfl
      obtain ⟨k, hkk⟩ : ∃ k, r.k = k := ⟨_, rfl⟩
      rw [hkk] at q1 q2 q3 q4 q5 q6 q10 q12 q13 c0
      clear hk
      have HN0 := Lib.hid (fun wx ad cap (a1 : At wx ad ((X0 : List UInt8).map bv)) a2 (a3 : 1 ≤ 200100) => RNumber_any ad 1 cap X0 r.fd wx (by have := Hr.out.fd; omega) Hl0.out a1 a2 (by omega))
      obtain ⟨X1, hX1⟩ : ∃ X, X0 ++ num r.fd = X := ⟨_, rfl⟩
      rw [hX1] at HN0
      have HN1 := Lib.hid (fun wx ad cap (a1 : At wx ad ((X1 : List UInt8).map bv)) a2 (a3 : (X1 : List UInt8).length ≤ 200100) => RNumber_any ad (X1 : List UInt8).length cap X1 r.at_ wx (by have := Hr.out.at_; omega) rfl a1 a2 (by omega))
      obtain ⟨X2, hX2⟩ : ∃ X, X1 ++ num r.at_ = X := ⟨_, rfl⟩
      rw [hX2] at HN1
      have HX : Hid (X2 = putQ r) := Lib.hid (by rw [Hq.out, ← hX2, ← hX1, H0.out]; simp)
      have HL : Hid (X1.length ≤ 200100) := Lib.hid (by rw [← hX1, H0.out]; have := put_len Hr.out Hf.out .fd; simp only [Rq.put] at this; simp only [List.length_append, List.length_cons, List.length_nil] at this ⊢; omega)
      clear hX1 hX2 hkk
      go_upto_region 15 with fail
      refine wp_region_held_drew (S := fun wx => World.grownBy w2 wx none) (by kernel_rfl) (grown_drew (World.grownBy.refl _ none)) (fun hS => ?_)
      generalize World.drew _ = wD at hS ⊢
      refine wpAnyH_take (i := 0) (oi := { dst := some 49, op := Op.move (Operand.tmp 3), type := 25, pos := "ref.go:69", after := #[], guard := none }) (v := ?vrp516r15o0n1) rfl (by kernel_rfl) (by kernel_rfl) (by kernel_rfl) (fun _ _ _ h => h) (Or.inl ⟨by rfl, ?hrp516r15o0n1⟩) hS ?_
      case hrp516r15o0n1 => (intro wx hx; skip; go_simp; (try with_reducible rfl))
      try simp only [Act.put, List.setIfInBounds_toArray, List.set_cons_zero, List.set_cons_succ]
      refine wpAnyH_take (i := 1) (oi := { dst := some 50, op := Op.fieldAddr 24 (Operand.tmp 1) 2, type := 0, pos := "ref.go:69", after := #[], guard := none }) (v := ?vrp516r15o1n2) rfl (by kernel_rfl) (by kernel_rfl) (by kernel_rfl) (fun _ _ _ h => h) (Or.inl ⟨by rfl, ?hrp516r15o1n2⟩) hS ?_
      case hrp516r15o1n2 => (intro wx hx; skip; go_simp; (try with_reducible rfl))
      try simp only [Act.put, List.setIfInBounds_toArray, List.set_cons_zero, List.set_cons_succ]
      refine wpAnyH_take (i := 2) (oi := { dst := some 51, op := Op.load 22 (Operand.tmp 50), type := 22, pos := "ref.go:69", after := #[{ on := 1, ground := Ground.data }], guard := none }) (v := ?vrp516r15o2n3) rfl (by kernel_rfl) (by kernel_rfl) (by kernel_rfl) (fun _ _ _ h => h) (Or.inl ⟨by rfl, ?hrp516r15o2n3⟩) hS ?_
      case hrp516r15o2n3 => (intro wx hx; have y0 := hx.cell c0 (by simp); have y1 := hx.cell c1 (by simp); have y2 := hx.cell c2 (by simp); have y3 := hx.cell c3 (by simp); have y4 := hx.cell c4 (by simp); have y5 := hx.cell c5 (by simp); have y6 := hx.cell c6 (by simp); have y7 := hx.cell c7 (by simp); go_simp; (try with_reducible rfl))
      try simp only [Act.put, List.setIfInBounds_toArray, List.set_cons_zero, List.set_cons_succ]
      refine wpAnyH_take (i := 4) (oi := { dst := some 53, op := Op.fieldAddr 24 (Operand.tmp 1) 3, type := 0, pos := "ref.go:69", after := #[], guard := none }) (v := ?vrp516r15o4n4) rfl (by kernel_rfl) (by kernel_rfl) (by kernel_rfl) (fun _ _ _ h => h) (Or.inl ⟨by rfl, ?hrp516r15o4n4⟩) hS ?_
      case hrp516r15o4n4 => (intro wx hx; skip; go_simp; (try with_reducible rfl))
      try simp only [Act.put, List.setIfInBounds_toArray, List.set_cons_zero, List.set_cons_succ]
      refine wpAnyH_take (i := 5) (oi := { dst := some 54, op := Op.load 22 (Operand.tmp 53), type := 22, pos := "ref.go:69", after := #[{ on := 4, ground := Ground.data }], guard := none }) (v := ?vrp516r15o5n5) rfl (by kernel_rfl) (by kernel_rfl) (by kernel_rfl) (fun _ _ _ h => h) (Or.inl ⟨by rfl, ?hrp516r15o5n5⟩) hS ?_
      case hrp516r15o5n5 => (intro wx hx; have y0 := hx.cell c0 (by simp); have y1 := hx.cell c1 (by simp); have y2 := hx.cell c2 (by simp); have y3 := hx.cell c3 (by simp); have y4 := hx.cell c4 (by simp); have y5 := hx.cell c5 (by simp); have y6 := hx.cell c6 (by simp); have y7 := hx.cell c7 (by simp); go_simp; (try with_reducible rfl))
      try simp only [Act.put, List.setIfInBounds_toArray, List.set_cons_zero, List.set_cons_succ]
      refine wpAnyH_ready (rs := [3]) (by kernel_rfl) (by simp) ?_
      refine AllReadyH.cons (o := { dst := some 52, op := Op.call { callee := Callee.value (Operand.func 37), args := #[Operand.tmp 49, Operand.tmp 51], argTypes := #[25, 22] }, type := 25, pos := "ref.go:69", after := #[{ on := 0, ground := Ground.data }, { on := 2, ground := Ground.data }], guard := none }) rfl (fun K hK => ?_) AllReadyH.nil
      go_simp
      refine (HN0.out _ _ _ (HA0.out.grown hS (fun _ _ _ => by simp)) (fun e => by cases e) (by decide)).mono ?_
      rintro e v0 ⟨ad0, cap0, rfl, a1, a2, ⟨a4, a3⟩, hg⟩
      have hS1 := grown_trans hS hg
      have HA1 := Lib.hid (And.intro a1 a2)
      clear a1 a2 a3 a4 hg
      refine hK.out _ _ ?hsrp516r15o3n6 (fun hS => ?_)
      case hsrp516r15o3n6 => (exact hS1)
      clear hK K
      try simp only [Act.put, List.setIfInBounds_toArray, List.set_cons_zero, List.set_cons_succ]
      refine wpAnyH_ready (rs := [6]) (by kernel_rfl) (by simp) ?_
      refine AllReadyH.cons (o := { dst := some 55, op := Op.call { callee := Callee.value (Operand.func 37), args := #[Operand.tmp 52, Operand.tmp 54], argTypes := #[25, 22] }, type := 25, pos := "ref.go:69", after := #[{ on := 3, ground := Ground.data }, { on := 5, ground := Ground.data }, { on := 3, ground := Ground.chain }], guard := none }) rfl (fun K hK => ?_) AllReadyH.nil
      go_simp
      refine (HN1.out _ _ _ HA1.out.1 HA1.out.2 HL.out).mono ?_
      rintro e v1 ⟨ad1, cap1, rfl, a1, a2, ⟨a4, a3⟩, hg⟩
      have hS1 := grown_trans hS hg
      have Hfin : Hid (MadeIs w X2 (.returned (.slice ad1 X2.length cap1)) v1) := Lib.hid (made_quiet hgw.out (made_quiet hS ⟨ad1, cap1, rfl, a1, a2, ⟨a4, a3⟩, hg⟩))
      clear a1 a2 a3 a4 hg
      refine hK.out _ _ ?hsrp516r15o6n7 (fun hS => ?_)
      case hsrp516r15o6n7 => (exact hS1)
      clear hK K
      try simp only [Act.put, List.setIfInBounds_toArray, List.set_cons_zero, List.set_cons_succ]
      refine wpAnyH_take (i := 7) (oi := { dst := some 2, op := Op.assign (Operand.tmp 55), type := 25, pos := "ref.go:69", after := #[{ on := 6, ground := Ground.data }, { on := 6, ground := Ground.chain }, { on := 0, ground := Ground.phase }, { on := 1, ground := Ground.phase }, { on := 2, ground := Ground.phase }, { on := 3, ground := Ground.phase }, { on := 4, ground := Ground.phase }, { on := 5, ground := Ground.phase }, { on := 6, ground := Ground.phase }], guard := none }) (v := ?vrp516r15o7n8) rfl (by kernel_rfl) (by kernel_rfl) (by kernel_rfl) (fun _ _ _ h => h) (Or.inl ⟨by rfl, ?hrp516r15o7n8⟩) hS ?_
      case hrp516r15o7n8 => (intro wx hx; skip; go_simp; (try with_reducible rfl))
      try simp only [Act.put, List.setIfInBounds_toArray, List.set_cons_zero, List.set_cons_succ]
      refine wpAnyH_done (by kernel_rfl) ?_ _
      go_wp2
      go_ret
      rw [← HX.out]
      exact Hfin.out
    · have hq : putQ r = putL r 2 := by unfold putQ; rw [if_pos hm, hk]; rfl
      have hfin : putL r 2 = UInt8.ofNat r.k :: (num r.fd ++ num r.at_) := by simp [putL, hk, flds, Rq.put]
      have Hq := Lib.hid (hq.trans hfin)
      clear hq hfin hm
      have q1 : ((r.k : Int) == 1) = false := by rw [hk]; rfl
      have q2 : ((r.k : Int) == 2) = false := by rw [hk]; rfl
      have q3 : ((r.k : Int) == 3) = false := by rw [hk]; rfl
      have q4 : ((r.k : Int) == 4) = false := by rw [hk]; rfl
      have q5 : ((r.k : Int) == 5) = false := by rw [hk]; rfl
      have q6 : ((r.k : Int) == 6) = true := by rw [hk]; rfl
      have q10 : ((r.k : Int) == 10) = false := by rw [hk]; rfl
      have q12 : ((r.k : Int) == 12) = false := by rw [hk]; rfl
      have q13 : ((r.k : Int) == 13) = false := by rw [hk]; rfl
      obtain ⟨k, hkk⟩ : ∃ k, r.k = k := ⟨_, rfl⟩
      rw [hkk] at q1 q2 q3 q4 q5 q6 q10 q12 q13 c0
      clear hk
      have HN0 := Lib.hid (fun wx ad cap (a1 : At wx ad ((X0 : List UInt8).map bv)) a2 (a3 : 1 ≤ 200100) => RNumber_any ad 1 cap X0 r.fd wx (by have := Hr.out.fd; omega) Hl0.out a1 a2 (by omega))
      obtain ⟨X1, hX1⟩ : ∃ X, X0 ++ num r.fd = X := ⟨_, rfl⟩
      rw [hX1] at HN0
      have HN1 := Lib.hid (fun wx ad cap (a1 : At wx ad ((X1 : List UInt8).map bv)) a2 (a3 : (X1 : List UInt8).length ≤ 200100) => RNumber_any ad (X1 : List UInt8).length cap X1 r.at_ wx (by have := Hr.out.at_; omega) rfl a1 a2 (by omega))
      obtain ⟨X2, hX2⟩ : ∃ X, X1 ++ num r.at_ = X := ⟨_, rfl⟩
      rw [hX2] at HN1
      have HX : Hid (X2 = putQ r) := Lib.hid (by rw [Hq.out, ← hX2, ← hX1, H0.out]; simp)
      have HL : Hid (X1.length ≤ 200100) := Lib.hid (by rw [← hX1, H0.out]; have := put_len Hr.out Hf.out .fd; simp only [Rq.put] at this; simp only [List.length_append, List.length_cons, List.length_nil] at this ⊢; omega)
      clear hX1 hX2 hkk
      go_upto_region 15 with fail
      refine wp_region_held_drew (S := fun wx => World.grownBy w2 wx none) (by kernel_rfl) (grown_drew (World.grownBy.refl _ none)) (fun hS => ?_)
      generalize World.drew _ = wD at hS ⊢
      refine wpAnyH_take (i := 0) (oi := { dst := some 49, op := Op.move (Operand.tmp 3), type := 25, pos := "ref.go:69", after := #[], guard := none }) (v := ?vrp616r15o0n1) rfl (by kernel_rfl) (by kernel_rfl) (by kernel_rfl) (fun _ _ _ h => h) (Or.inl ⟨by rfl, ?hrp616r15o0n1⟩) hS ?_
      case hrp616r15o0n1 => (intro wx hx; skip; go_simp; (try with_reducible rfl))
      try simp only [Act.put, List.setIfInBounds_toArray, List.set_cons_zero, List.set_cons_succ]
      refine wpAnyH_take (i := 1) (oi := { dst := some 50, op := Op.fieldAddr 24 (Operand.tmp 1) 2, type := 0, pos := "ref.go:69", after := #[], guard := none }) (v := ?vrp616r15o1n2) rfl (by kernel_rfl) (by kernel_rfl) (by kernel_rfl) (fun _ _ _ h => h) (Or.inl ⟨by rfl, ?hrp616r15o1n2⟩) hS ?_
      case hrp616r15o1n2 => (intro wx hx; skip; go_simp; (try with_reducible rfl))
      try simp only [Act.put, List.setIfInBounds_toArray, List.set_cons_zero, List.set_cons_succ]
      refine wpAnyH_take (i := 2) (oi := { dst := some 51, op := Op.load 22 (Operand.tmp 50), type := 22, pos := "ref.go:69", after := #[{ on := 1, ground := Ground.data }], guard := none }) (v := ?vrp616r15o2n3) rfl (by kernel_rfl) (by kernel_rfl) (by kernel_rfl) (fun _ _ _ h => h) (Or.inl ⟨by rfl, ?hrp616r15o2n3⟩) hS ?_
      case hrp616r15o2n3 => (intro wx hx; have y0 := hx.cell c0 (by simp); have y1 := hx.cell c1 (by simp); have y2 := hx.cell c2 (by simp); have y3 := hx.cell c3 (by simp); have y4 := hx.cell c4 (by simp); have y5 := hx.cell c5 (by simp); have y6 := hx.cell c6 (by simp); have y7 := hx.cell c7 (by simp); go_simp; (try with_reducible rfl))
      try simp only [Act.put, List.setIfInBounds_toArray, List.set_cons_zero, List.set_cons_succ]
      refine wpAnyH_take (i := 4) (oi := { dst := some 53, op := Op.fieldAddr 24 (Operand.tmp 1) 3, type := 0, pos := "ref.go:69", after := #[], guard := none }) (v := ?vrp616r15o4n4) rfl (by kernel_rfl) (by kernel_rfl) (by kernel_rfl) (fun _ _ _ h => h) (Or.inl ⟨by rfl, ?hrp616r15o4n4⟩) hS ?_
      case hrp616r15o4n4 => (intro wx hx; skip; go_simp; (try with_reducible rfl))
      try simp only [Act.put, List.setIfInBounds_toArray, List.set_cons_zero, List.set_cons_succ]
      refine wpAnyH_take (i := 5) (oi := { dst := some 54, op := Op.load 22 (Operand.tmp 53), type := 22, pos := "ref.go:69", after := #[{ on := 4, ground := Ground.data }], guard := none }) (v := ?vrp616r15o5n5) rfl (by kernel_rfl) (by kernel_rfl) (by kernel_rfl) (fun _ _ _ h => h) (Or.inl ⟨by rfl, ?hrp616r15o5n5⟩) hS ?_
      case hrp616r15o5n5 => (intro wx hx; have y0 := hx.cell c0 (by simp); have y1 := hx.cell c1 (by simp); have y2 := hx.cell c2 (by simp); have y3 := hx.cell c3 (by simp); have y4 := hx.cell c4 (by simp); have y5 := hx.cell c5 (by simp); have y6 := hx.cell c6 (by simp); have y7 := hx.cell c7 (by simp); go_simp; (try with_reducible rfl))
      try simp only [Act.put, List.setIfInBounds_toArray, List.set_cons_zero, List.set_cons_succ]
      refine wpAnyH_ready (rs := [3]) (by kernel_rfl) (by simp) ?_
      refine AllReadyH.cons (o := { dst := some 52, op := Op.call { callee := Callee.value (Operand.func 37), args := #[Operand.tmp 49, Operand.tmp 51], argTypes := #[25, 22] }, type := 25, pos := "ref.go:69", after := #[{ on := 0, ground := Ground.data }, { on := 2, ground := Ground.data }], guard := none }) rfl (fun K hK => ?_) AllReadyH.nil
      go_simp
      refine (HN0.out _ _ _ (HA0.out.grown hS (fun _ _ _ => by simp)) (fun e => by cases e) (by decide)).mono ?_
      rintro e v0 ⟨ad0, cap0, rfl, a1, a2, ⟨a4, a3⟩, hg⟩
      have hS1 := grown_trans hS hg
      have HA1 := Lib.hid (And.intro a1 a2)
      clear a1 a2 a3 a4 hg
      refine hK.out _ _ ?hsrp616r15o3n6 (fun hS => ?_)
      case hsrp616r15o3n6 => (exact hS1)
      clear hK K
      try simp only [Act.put, List.setIfInBounds_toArray, List.set_cons_zero, List.set_cons_succ]
      refine wpAnyH_ready (rs := [6]) (by kernel_rfl) (by simp) ?_
      refine AllReadyH.cons (o := { dst := some 55, op := Op.call { callee := Callee.value (Operand.func 37), args := #[Operand.tmp 52, Operand.tmp 54], argTypes := #[25, 22] }, type := 25, pos := "ref.go:69", after := #[{ on := 3, ground := Ground.data }, { on := 5, ground := Ground.data }, { on := 3, ground := Ground.chain }], guard := none }) rfl (fun K hK => ?_) AllReadyH.nil
      go_simp
      refine (HN1.out _ _ _ HA1.out.1 HA1.out.2 HL.out).mono ?_
      rintro e v1 ⟨ad1, cap1, rfl, a1, a2, ⟨a4, a3⟩, hg⟩
      have hS1 := grown_trans hS hg
      have Hfin : Hid (MadeIs w X2 (.returned (.slice ad1 X2.length cap1)) v1) := Lib.hid (made_quiet hgw.out (made_quiet hS ⟨ad1, cap1, rfl, a1, a2, ⟨a4, a3⟩, hg⟩))
      clear a1 a2 a3 a4 hg
      refine hK.out _ _ ?hsrp616r15o6n7 (fun hS => ?_)
      case hsrp616r15o6n7 => (exact hS1)
      clear hK K
      try simp only [Act.put, List.setIfInBounds_toArray, List.set_cons_zero, List.set_cons_succ]
      refine wpAnyH_take (i := 7) (oi := { dst := some 2, op := Op.assign (Operand.tmp 55), type := 25, pos := "ref.go:69", after := #[{ on := 6, ground := Ground.data }, { on := 6, ground := Ground.chain }, { on := 0, ground := Ground.phase }, { on := 1, ground := Ground.phase }, { on := 2, ground := Ground.phase }, { on := 3, ground := Ground.phase }, { on := 4, ground := Ground.phase }, { on := 5, ground := Ground.phase }, { on := 6, ground := Ground.phase }], guard := none }) (v := ?vrp616r15o7n8) rfl (by kernel_rfl) (by kernel_rfl) (by kernel_rfl) (fun _ _ _ h => h) (Or.inl ⟨by rfl, ?hrp616r15o7n8⟩) hS ?_
      case hrp616r15o7n8 => (intro wx hx; skip; go_simp; (try with_reducible rfl))
      try simp only [Act.put, List.setIfInBounds_toArray, List.set_cons_zero, List.set_cons_succ]
      refine wpAnyH_done (by kernel_rfl) ?_ _
      go_wp2
      go_ret
      rw [← HX.out]
      exact Hfin.out
    · have hq : putQ r = putL r 1 := by unfold putQ; rw [if_pos hm, hk]; rfl
      have hfin : putL r 1 = UInt8.ofNat r.k :: ((num r.p.size ++ bytesOf r.p)) := by simp [putL, hk, flds, Rq.put]
      have Hq := Lib.hid (hq.trans hfin)
      clear hq hfin hm
      have q1 : ((r.k : Int) == 1) = false := by rw [hk]; rfl
      have q2 : ((r.k : Int) == 2) = false := by rw [hk]; rfl
      have q3 : ((r.k : Int) == 3) = false := by rw [hk]; rfl
      have q4 : ((r.k : Int) == 4) = false := by rw [hk]; rfl
      have q5 : ((r.k : Int) == 5) = false := by rw [hk]; rfl
      have q6 : ((r.k : Int) == 6) = false := by rw [hk]; rfl
      have q10 : ((r.k : Int) == 10) = false := by rw [hk]; rfl
      have q12 : ((r.k : Int) == 12) = false := by rw [hk]; rfl
      have q13 : ((r.k : Int) == 13) = false := by rw [hk]; rfl
      obtain ⟨k, hkk⟩ : ∃ k, r.k = k := ⟨_, rfl⟩
      rw [hkk] at q1 q2 q3 q4 q5 q6 q10 q12 q13 c0
      clear hk
      have HN0 := Lib.hid (fun wx ad cap (a1 : At wx ad ((X0 : List UInt8).map bv)) a2 (a3 : 1 ≤ 200100) => RText_any ad 1 cap X0 r.p wx Hl0.out a1 a2 (by omega) (by have := Hf.out.p; omega))
      obtain ⟨X1, hX1⟩ : ∃ X, X0 ++ num r.p.size ++ bytesOf r.p = X := ⟨_, rfl⟩
      rw [hX1] at HN0
      have HX : Hid (X1 = putQ r) := Lib.hid (by rw [Hq.out, ← hX1, H0.out]; simp)
      clear hX1 hkk
      go_wp2_with fail
      refine (HN0.out _ _ _ HA0.out (fun e => by cases e) (by decide)).mono ?_
      rintro e v0 ⟨ad0, cap0, rfl, a1, a2, ⟨a4, a3⟩, hg⟩
      have Hfin : Hid (MadeIs w X1 (.returned (.slice ad0 X1.length cap0)) v0) := Lib.hid (made_quiet hgw.out ⟨ad0, cap0, rfl, a1, a2, ⟨a4, a3⟩, hg⟩)
      clear a1 a2 a3 a4 hg
      go_wp2
      go_ret
      rw [← HX.out]
      exact Hfin.out
    · have hq : putQ r = putL r 1 := by unfold putQ; rw [if_pos hm, hk]; rfl
      have hfin : putL r 1 = UInt8.ofNat r.k :: ((num r.p.size ++ bytesOf r.p)) := by simp [putL, hk, flds, Rq.put]
      have Hq := Lib.hid (hq.trans hfin)
      clear hq hfin hm
      have q1 : ((r.k : Int) == 1) = false := by rw [hk]; rfl
      have q2 : ((r.k : Int) == 2) = false := by rw [hk]; rfl
      have q3 : ((r.k : Int) == 3) = false := by rw [hk]; rfl
      have q4 : ((r.k : Int) == 4) = false := by rw [hk]; rfl
      have q5 : ((r.k : Int) == 5) = false := by rw [hk]; rfl
      have q6 : ((r.k : Int) == 6) = false := by rw [hk]; rfl
      have q10 : ((r.k : Int) == 10) = false := by rw [hk]; rfl
      have q12 : ((r.k : Int) == 12) = false := by rw [hk]; rfl
      have q13 : ((r.k : Int) == 13) = false := by rw [hk]; rfl
      obtain ⟨k, hkk⟩ : ∃ k, r.k = k := ⟨_, rfl⟩
      rw [hkk] at q1 q2 q3 q4 q5 q6 q10 q12 q13 c0
      clear hk
      have HN0 := Lib.hid (fun wx ad cap (a1 : At wx ad ((X0 : List UInt8).map bv)) a2 (a3 : 1 ≤ 200100) => RText_any ad 1 cap X0 r.p wx Hl0.out a1 a2 (by omega) (by have := Hf.out.p; omega))
      obtain ⟨X1, hX1⟩ : ∃ X, X0 ++ num r.p.size ++ bytesOf r.p = X := ⟨_, rfl⟩
      rw [hX1] at HN0
      have HX : Hid (X1 = putQ r) := Lib.hid (by rw [Hq.out, ← hX1, H0.out]; simp)
      clear hX1 hkk
      go_wp2_with fail
      refine (HN0.out _ _ _ HA0.out (fun e => by cases e) (by decide)).mono ?_
      rintro e v0 ⟨ad0, cap0, rfl, a1, a2, ⟨a4, a3⟩, hg⟩
      have Hfin : Hid (MadeIs w X1 (.returned (.slice ad0 X1.length cap0)) v0) := Lib.hid (made_quiet hgw.out ⟨ad0, cap0, rfl, a1, a2, ⟨a4, a3⟩, hg⟩)
      clear a1 a2 a3 a4 hg
      go_wp2
      go_ret
      rw [← HX.out]
      exact Hfin.out
    · have hq : putQ r = putL r 1 := by unfold putQ; rw [if_pos hm, hk]; rfl
      have hfin : putL r 1 = UInt8.ofNat r.k :: ((num r.p.size ++ bytesOf r.p)) := by simp [putL, hk, flds, Rq.put]
      have Hq := Lib.hid (hq.trans hfin)
      clear hq hfin hm
      have q1 : ((r.k : Int) == 1) = false := by rw [hk]; rfl
      have q2 : ((r.k : Int) == 2) = false := by rw [hk]; rfl
      have q3 : ((r.k : Int) == 3) = false := by rw [hk]; rfl
      have q4 : ((r.k : Int) == 4) = false := by rw [hk]; rfl
      have q5 : ((r.k : Int) == 5) = false := by rw [hk]; rfl
      have q6 : ((r.k : Int) == 6) = false := by rw [hk]; rfl
      have q10 : ((r.k : Int) == 10) = false := by rw [hk]; rfl
      have q12 : ((r.k : Int) == 12) = false := by rw [hk]; rfl
      have q13 : ((r.k : Int) == 13) = false := by rw [hk]; rfl
      obtain ⟨k, hkk⟩ : ∃ k, r.k = k := ⟨_, rfl⟩
      rw [hkk] at q1 q2 q3 q4 q5 q6 q10 q12 q13 c0
      clear hk
      have HN0 := Lib.hid (fun wx ad cap (a1 : At wx ad ((X0 : List UInt8).map bv)) a2 (a3 : 1 ≤ 200100) => RText_any ad 1 cap X0 r.p wx Hl0.out a1 a2 (by omega) (by have := Hf.out.p; omega))
      obtain ⟨X1, hX1⟩ : ∃ X, X0 ++ num r.p.size ++ bytesOf r.p = X := ⟨_, rfl⟩
      rw [hX1] at HN0
      have HX : Hid (X1 = putQ r) := Lib.hid (by rw [Hq.out, ← hX1, H0.out]; simp)
      clear hX1 hkk
      go_wp2_with fail
      refine (HN0.out _ _ _ HA0.out (fun e => by cases e) (by decide)).mono ?_
      rintro e v0 ⟨ad0, cap0, rfl, a1, a2, ⟨a4, a3⟩, hg⟩
      have Hfin : Hid (MadeIs w X1 (.returned (.slice ad0 X1.length cap0)) v0) := Lib.hid (made_quiet hgw.out ⟨ad0, cap0, rfl, a1, a2, ⟨a4, a3⟩, hg⟩)
      clear a1 a2 a3 a4 hg
      go_wp2
      go_ret
      rw [← HX.out]
      exact Hfin.out
    · have hq : putQ r = putL r 2 := by unfold putQ; rw [if_pos hm, hk]; rfl
      have hfin : putL r 2 = UInt8.ofNat r.k :: ((num r.p.size ++ bytesOf r.p) ++ (num r.t.size ++ bytesOf r.t)) := by simp [putL, hk, flds, Rq.put]
      have Hq := Lib.hid (hq.trans hfin)
      clear hq hfin hm
      have q1 : ((r.k : Int) == 1) = false := by rw [hk]; rfl
      have q2 : ((r.k : Int) == 2) = false := by rw [hk]; rfl
      have q3 : ((r.k : Int) == 3) = false := by rw [hk]; rfl
      have q4 : ((r.k : Int) == 4) = false := by rw [hk]; rfl
      have q5 : ((r.k : Int) == 5) = false := by rw [hk]; rfl
      have q6 : ((r.k : Int) == 6) = false := by rw [hk]; rfl
      have q10 : ((r.k : Int) == 10) = true := by rw [hk]; rfl
      have q12 : ((r.k : Int) == 12) = false := by rw [hk]; rfl
      have q13 : ((r.k : Int) == 13) = false := by rw [hk]; rfl
      obtain ⟨k, hkk⟩ : ∃ k, r.k = k := ⟨_, rfl⟩
      rw [hkk] at q1 q2 q3 q4 q5 q6 q10 q12 q13 c0
      clear hk
      have HN0 := Lib.hid (fun wx ad cap (a1 : At wx ad ((X0 : List UInt8).map bv)) a2 (a3 : 1 ≤ 200100) => RText_any ad 1 cap X0 r.p wx Hl0.out a1 a2 (by omega) (by have := Hf.out.p; omega))
      obtain ⟨X1, hX1⟩ : ∃ X, X0 ++ num r.p.size ++ bytesOf r.p = X := ⟨_, rfl⟩
      rw [hX1] at HN0
      have HN1 := Lib.hid (fun wx ad cap (a1 : At wx ad ((X1 : List UInt8).map bv)) a2 (a3 : (X1 : List UInt8).length ≤ 200100) => RText_any ad (X1 : List UInt8).length cap X1 r.t wx rfl a1 a2 (by omega) (by have := Hf.out.t; omega))
      obtain ⟨X2, hX2⟩ : ∃ X, X1 ++ num r.t.size ++ bytesOf r.t = X := ⟨_, rfl⟩
      rw [hX2] at HN1
      have HX : Hid (X2 = putQ r) := Lib.hid (by rw [Hq.out, ← hX2, ← hX1, H0.out]; simp)
      have HL : Hid (X1.length ≤ 200100) := Lib.hid (by rw [← hX1, H0.out]; have := put_len Hr.out Hf.out .path; simp only [Rq.put, List.length_append] at this; simp only [List.length_append, List.length_cons, List.length_nil] at this ⊢; omega)
      clear hX1 hX2 hkk
      go_upto_region 18 with fail
      refine wp_region_held_drew (S := fun wx => World.grownBy w2 wx none) (by kernel_rfl) (grown_drew (World.grownBy.refl _ none)) (fun hS => ?_)
      generalize World.drew _ = wD at hS ⊢
      refine wpAnyH_take (i := 0) (oi := { dst := some 59, op := Op.move (Operand.tmp 3), type := 25, pos := "ref.go:71", after := #[], guard := none }) (v := ?vrp1016r18o0n1) rfl (by kernel_rfl) (by kernel_rfl) (by kernel_rfl) (fun _ _ _ h => h) (Or.inl ⟨by rfl, ?hrp1016r18o0n1⟩) hS ?_
      case hrp1016r18o0n1 => (intro wx hx; skip; go_simp; (try with_reducible rfl))
      try simp only [Act.put, List.setIfInBounds_toArray, List.set_cons_zero, List.set_cons_succ]
      refine wpAnyH_take (i := 1) (oi := { dst := some 60, op := Op.fieldAddr 24 (Operand.tmp 1) 5, type := 0, pos := "ref.go:71", after := #[], guard := none }) (v := ?vrp1016r18o1n2) rfl (by kernel_rfl) (by kernel_rfl) (by kernel_rfl) (fun _ _ _ h => h) (Or.inl ⟨by rfl, ?hrp1016r18o1n2⟩) hS ?_
      case hrp1016r18o1n2 => (intro wx hx; skip; go_simp; (try with_reducible rfl))
      try simp only [Act.put, List.setIfInBounds_toArray, List.set_cons_zero, List.set_cons_succ]
      refine wpAnyH_take (i := 2) (oi := { dst := some 61, op := Op.load 9 (Operand.tmp 60), type := 9, pos := "ref.go:71", after := #[{ on := 1, ground := Ground.data }], guard := none }) (v := ?vrp1016r18o2n3) rfl (by kernel_rfl) (by kernel_rfl) (by kernel_rfl) (fun _ _ _ h => h) (Or.inl ⟨by rfl, ?hrp1016r18o2n3⟩) hS ?_
      case hrp1016r18o2n3 => (intro wx hx; have y0 := hx.cell c0 (by simp); have y1 := hx.cell c1 (by simp); have y2 := hx.cell c2 (by simp); have y3 := hx.cell c3 (by simp); have y4 := hx.cell c4 (by simp); have y5 := hx.cell c5 (by simp); have y6 := hx.cell c6 (by simp); have y7 := hx.cell c7 (by simp); go_simp; (try with_reducible rfl))
      try simp only [Act.put, List.setIfInBounds_toArray, List.set_cons_zero, List.set_cons_succ]
      refine wpAnyH_take (i := 4) (oi := { dst := some 63, op := Op.fieldAddr 24 (Operand.tmp 1) 6, type := 0, pos := "ref.go:71", after := #[], guard := none }) (v := ?vrp1016r18o4n4) rfl (by kernel_rfl) (by kernel_rfl) (by kernel_rfl) (fun _ _ _ h => h) (Or.inl ⟨by rfl, ?hrp1016r18o4n4⟩) hS ?_
      case hrp1016r18o4n4 => (intro wx hx; skip; go_simp; (try with_reducible rfl))
      try simp only [Act.put, List.setIfInBounds_toArray, List.set_cons_zero, List.set_cons_succ]
      refine wpAnyH_take (i := 5) (oi := { dst := some 64, op := Op.load 9 (Operand.tmp 63), type := 9, pos := "ref.go:71", after := #[{ on := 4, ground := Ground.data }], guard := none }) (v := ?vrp1016r18o5n5) rfl (by kernel_rfl) (by kernel_rfl) (by kernel_rfl) (fun _ _ _ h => h) (Or.inl ⟨by rfl, ?hrp1016r18o5n5⟩) hS ?_
      case hrp1016r18o5n5 => (intro wx hx; have y0 := hx.cell c0 (by simp); have y1 := hx.cell c1 (by simp); have y2 := hx.cell c2 (by simp); have y3 := hx.cell c3 (by simp); have y4 := hx.cell c4 (by simp); have y5 := hx.cell c5 (by simp); have y6 := hx.cell c6 (by simp); have y7 := hx.cell c7 (by simp); go_simp; (try with_reducible rfl))
      try simp only [Act.put, List.setIfInBounds_toArray, List.set_cons_zero, List.set_cons_succ]
      refine wpAnyH_ready (rs := [3]) (by kernel_rfl) (by simp) ?_
      refine AllReadyH.cons (o := { dst := some 62, op := Op.call { callee := Callee.value (Operand.func 38), args := #[Operand.tmp 59, Operand.tmp 61], argTypes := #[25, 9] }, type := 25, pos := "ref.go:71", after := #[{ on := 0, ground := Ground.data }, { on := 2, ground := Ground.data }], guard := none }) rfl (fun K hK => ?_) AllReadyH.nil
      go_simp
      refine (HN0.out _ _ _ (HA0.out.grown hS (fun _ _ _ => by simp)) (fun e => by cases e) (by decide)).mono ?_
      rintro e v0 ⟨ad0, cap0, rfl, a1, a2, ⟨a4, a3⟩, hg⟩
      have hS1 := grown_trans hS hg
      have HA1 := Lib.hid (And.intro a1 a2)
      clear a1 a2 a3 a4 hg
      refine hK.out _ _ ?hsrp1016r18o3n6 (fun hS => ?_)
      case hsrp1016r18o3n6 => (exact hS1)
      clear hK K
      try simp only [Act.put, List.setIfInBounds_toArray, List.set_cons_zero, List.set_cons_succ]
      refine wpAnyH_ready (rs := [6]) (by kernel_rfl) (by simp) ?_
      refine AllReadyH.cons (o := { dst := some 65, op := Op.call { callee := Callee.value (Operand.func 38), args := #[Operand.tmp 62, Operand.tmp 64], argTypes := #[25, 9] }, type := 25, pos := "ref.go:71", after := #[{ on := 3, ground := Ground.data }, { on := 5, ground := Ground.data }, { on := 3, ground := Ground.chain }], guard := none }) rfl (fun K hK => ?_) AllReadyH.nil
      go_simp
      refine (HN1.out _ _ _ HA1.out.1 HA1.out.2 HL.out).mono ?_
      rintro e v1 ⟨ad1, cap1, rfl, a1, a2, ⟨a4, a3⟩, hg⟩
      have hS1 := grown_trans hS hg
      have Hfin : Hid (MadeIs w X2 (.returned (.slice ad1 X2.length cap1)) v1) := Lib.hid (made_quiet hgw.out (made_quiet hS ⟨ad1, cap1, rfl, a1, a2, ⟨a4, a3⟩, hg⟩))
      clear a1 a2 a3 a4 hg
      refine hK.out _ _ ?hsrp1016r18o6n7 (fun hS => ?_)
      case hsrp1016r18o6n7 => (exact hS1)
      clear hK K
      try simp only [Act.put, List.setIfInBounds_toArray, List.set_cons_zero, List.set_cons_succ]
      refine wpAnyH_take (i := 7) (oi := { dst := some 2, op := Op.assign (Operand.tmp 65), type := 25, pos := "ref.go:71", after := #[{ on := 6, ground := Ground.data }, { on := 6, ground := Ground.chain }, { on := 0, ground := Ground.phase }, { on := 1, ground := Ground.phase }, { on := 2, ground := Ground.phase }, { on := 3, ground := Ground.phase }, { on := 4, ground := Ground.phase }, { on := 5, ground := Ground.phase }, { on := 6, ground := Ground.phase }], guard := none }) (v := ?vrp1016r18o7n8) rfl (by kernel_rfl) (by kernel_rfl) (by kernel_rfl) (fun _ _ _ h => h) (Or.inl ⟨by rfl, ?hrp1016r18o7n8⟩) hS ?_
      case hrp1016r18o7n8 => (intro wx hx; skip; go_simp; (try with_reducible rfl))
      try simp only [Act.put, List.setIfInBounds_toArray, List.set_cons_zero, List.set_cons_succ]
      refine wpAnyH_done (by kernel_rfl) ?_ _
      go_wp2
      go_ret
      rw [← HX.out]
      exact Hfin.out
    · have hq : putQ r = putL r 1 := by unfold putQ; rw [if_pos hm, hk]; rfl
      have hfin : putL r 1 = UInt8.ofNat r.k :: ((num r.p.size ++ bytesOf r.p)) := by simp [putL, hk, flds, Rq.put]
      have Hq := Lib.hid (hq.trans hfin)
      clear hq hfin hm
      have q1 : ((r.k : Int) == 1) = false := by rw [hk]; rfl
      have q2 : ((r.k : Int) == 2) = false := by rw [hk]; rfl
      have q3 : ((r.k : Int) == 3) = false := by rw [hk]; rfl
      have q4 : ((r.k : Int) == 4) = false := by rw [hk]; rfl
      have q5 : ((r.k : Int) == 5) = false := by rw [hk]; rfl
      have q6 : ((r.k : Int) == 6) = false := by rw [hk]; rfl
      have q10 : ((r.k : Int) == 10) = false := by rw [hk]; rfl
      have q12 : ((r.k : Int) == 12) = false := by rw [hk]; rfl
      have q13 : ((r.k : Int) == 13) = false := by rw [hk]; rfl
      obtain ⟨k, hkk⟩ : ∃ k, r.k = k := ⟨_, rfl⟩
      rw [hkk] at q1 q2 q3 q4 q5 q6 q10 q12 q13 c0
      clear hk
      have HN0 := Lib.hid (fun wx ad cap (a1 : At wx ad ((X0 : List UInt8).map bv)) a2 (a3 : 1 ≤ 200100) => RText_any ad 1 cap X0 r.p wx Hl0.out a1 a2 (by omega) (by have := Hf.out.p; omega))
      obtain ⟨X1, hX1⟩ : ∃ X, X0 ++ num r.p.size ++ bytesOf r.p = X := ⟨_, rfl⟩
      rw [hX1] at HN0
      have HX : Hid (X1 = putQ r) := Lib.hid (by rw [Hq.out, ← hX1, H0.out]; simp)
      clear hX1 hkk
      go_wp2_with fail
      refine (HN0.out _ _ _ HA0.out (fun e => by cases e) (by decide)).mono ?_
      rintro e v0 ⟨ad0, cap0, rfl, a1, a2, ⟨a4, a3⟩, hg⟩
      have Hfin : Hid (MadeIs w X1 (.returned (.slice ad0 X1.length cap0)) v0) := Lib.hid (made_quiet hgw.out ⟨ad0, cap0, rfl, a1, a2, ⟨a4, a3⟩, hg⟩)
      clear a1 a2 a3 a4 hg
      go_wp2
      go_ret
      rw [← HX.out]
      exact Hfin.out
    · have hq : putQ r = putL r 2 := by unfold putQ; rw [if_pos hm, hk]; rfl
      have hfin : putL r 2 = UInt8.ofNat r.k :: ((num r.p.size ++ bytesOf r.p) ++ (num r.t.size ++ bytesOf r.t)) := by simp [putL, hk, flds, Rq.put]
      have Hq := Lib.hid (hq.trans hfin)
      clear hq hfin hm
      have q1 : ((r.k : Int) == 1) = false := by rw [hk]; rfl
      have q2 : ((r.k : Int) == 2) = false := by rw [hk]; rfl
      have q3 : ((r.k : Int) == 3) = false := by rw [hk]; rfl
      have q4 : ((r.k : Int) == 4) = false := by rw [hk]; rfl
      have q5 : ((r.k : Int) == 5) = false := by rw [hk]; rfl
      have q6 : ((r.k : Int) == 6) = false := by rw [hk]; rfl
      have q10 : ((r.k : Int) == 10) = false := by rw [hk]; rfl
      have q12 : ((r.k : Int) == 12) = true := by rw [hk]; rfl
      have q13 : ((r.k : Int) == 13) = false := by rw [hk]; rfl
      obtain ⟨k, hkk⟩ : ∃ k, r.k = k := ⟨_, rfl⟩
      rw [hkk] at q1 q2 q3 q4 q5 q6 q10 q12 q13 c0
      clear hk
      have HN0 := Lib.hid (fun wx ad cap (a1 : At wx ad ((X0 : List UInt8).map bv)) a2 (a3 : 1 ≤ 200100) => RText_any ad 1 cap X0 r.p wx Hl0.out a1 a2 (by omega) (by have := Hf.out.p; omega))
      obtain ⟨X1, hX1⟩ : ∃ X, X0 ++ num r.p.size ++ bytesOf r.p = X := ⟨_, rfl⟩
      rw [hX1] at HN0
      have HN1 := Lib.hid (fun wx ad cap (a1 : At wx ad ((X1 : List UInt8).map bv)) a2 (a3 : (X1 : List UInt8).length ≤ 200100) => RText_any ad (X1 : List UInt8).length cap X1 r.t wx rfl a1 a2 (by omega) (by have := Hf.out.t; omega))
      obtain ⟨X2, hX2⟩ : ∃ X, X1 ++ num r.t.size ++ bytesOf r.t = X := ⟨_, rfl⟩
      rw [hX2] at HN1
      have HX : Hid (X2 = putQ r) := Lib.hid (by rw [Hq.out, ← hX2, ← hX1, H0.out]; simp)
      have HL : Hid (X1.length ≤ 200100) := Lib.hid (by rw [← hX1, H0.out]; have := put_len Hr.out Hf.out .path; simp only [Rq.put, List.length_append] at this; simp only [List.length_append, List.length_cons, List.length_nil] at this ⊢; omega)
      clear hX1 hX2 hkk
      go_upto_region 18 with fail
      refine wp_region_held_drew (S := fun wx => World.grownBy w2 wx none) (by kernel_rfl) (grown_drew (World.grownBy.refl _ none)) (fun hS => ?_)
      generalize World.drew _ = wD at hS ⊢
      refine wpAnyH_take (i := 0) (oi := { dst := some 59, op := Op.move (Operand.tmp 3), type := 25, pos := "ref.go:71", after := #[], guard := none }) (v := ?vrp1216r18o0n1) rfl (by kernel_rfl) (by kernel_rfl) (by kernel_rfl) (fun _ _ _ h => h) (Or.inl ⟨by rfl, ?hrp1216r18o0n1⟩) hS ?_
      case hrp1216r18o0n1 => (intro wx hx; skip; go_simp; (try with_reducible rfl))
      try simp only [Act.put, List.setIfInBounds_toArray, List.set_cons_zero, List.set_cons_succ]
      refine wpAnyH_take (i := 1) (oi := { dst := some 60, op := Op.fieldAddr 24 (Operand.tmp 1) 5, type := 0, pos := "ref.go:71", after := #[], guard := none }) (v := ?vrp1216r18o1n2) rfl (by kernel_rfl) (by kernel_rfl) (by kernel_rfl) (fun _ _ _ h => h) (Or.inl ⟨by rfl, ?hrp1216r18o1n2⟩) hS ?_
      case hrp1216r18o1n2 => (intro wx hx; skip; go_simp; (try with_reducible rfl))
      try simp only [Act.put, List.setIfInBounds_toArray, List.set_cons_zero, List.set_cons_succ]
      refine wpAnyH_take (i := 2) (oi := { dst := some 61, op := Op.load 9 (Operand.tmp 60), type := 9, pos := "ref.go:71", after := #[{ on := 1, ground := Ground.data }], guard := none }) (v := ?vrp1216r18o2n3) rfl (by kernel_rfl) (by kernel_rfl) (by kernel_rfl) (fun _ _ _ h => h) (Or.inl ⟨by rfl, ?hrp1216r18o2n3⟩) hS ?_
      case hrp1216r18o2n3 => (intro wx hx; have y0 := hx.cell c0 (by simp); have y1 := hx.cell c1 (by simp); have y2 := hx.cell c2 (by simp); have y3 := hx.cell c3 (by simp); have y4 := hx.cell c4 (by simp); have y5 := hx.cell c5 (by simp); have y6 := hx.cell c6 (by simp); have y7 := hx.cell c7 (by simp); go_simp; (try with_reducible rfl))
      try simp only [Act.put, List.setIfInBounds_toArray, List.set_cons_zero, List.set_cons_succ]
      refine wpAnyH_take (i := 4) (oi := { dst := some 63, op := Op.fieldAddr 24 (Operand.tmp 1) 6, type := 0, pos := "ref.go:71", after := #[], guard := none }) (v := ?vrp1216r18o4n4) rfl (by kernel_rfl) (by kernel_rfl) (by kernel_rfl) (fun _ _ _ h => h) (Or.inl ⟨by rfl, ?hrp1216r18o4n4⟩) hS ?_
      case hrp1216r18o4n4 => (intro wx hx; skip; go_simp; (try with_reducible rfl))
      try simp only [Act.put, List.setIfInBounds_toArray, List.set_cons_zero, List.set_cons_succ]
      refine wpAnyH_take (i := 5) (oi := { dst := some 64, op := Op.load 9 (Operand.tmp 63), type := 9, pos := "ref.go:71", after := #[{ on := 4, ground := Ground.data }], guard := none }) (v := ?vrp1216r18o5n5) rfl (by kernel_rfl) (by kernel_rfl) (by kernel_rfl) (fun _ _ _ h => h) (Or.inl ⟨by rfl, ?hrp1216r18o5n5⟩) hS ?_
      case hrp1216r18o5n5 => (intro wx hx; have y0 := hx.cell c0 (by simp); have y1 := hx.cell c1 (by simp); have y2 := hx.cell c2 (by simp); have y3 := hx.cell c3 (by simp); have y4 := hx.cell c4 (by simp); have y5 := hx.cell c5 (by simp); have y6 := hx.cell c6 (by simp); have y7 := hx.cell c7 (by simp); go_simp; (try with_reducible rfl))
      try simp only [Act.put, List.setIfInBounds_toArray, List.set_cons_zero, List.set_cons_succ]
      refine wpAnyH_ready (rs := [3]) (by kernel_rfl) (by simp) ?_
      refine AllReadyH.cons (o := { dst := some 62, op := Op.call { callee := Callee.value (Operand.func 38), args := #[Operand.tmp 59, Operand.tmp 61], argTypes := #[25, 9] }, type := 25, pos := "ref.go:71", after := #[{ on := 0, ground := Ground.data }, { on := 2, ground := Ground.data }], guard := none }) rfl (fun K hK => ?_) AllReadyH.nil
      go_simp
      refine (HN0.out _ _ _ (HA0.out.grown hS (fun _ _ _ => by simp)) (fun e => by cases e) (by decide)).mono ?_
      rintro e v0 ⟨ad0, cap0, rfl, a1, a2, ⟨a4, a3⟩, hg⟩
      have hS1 := grown_trans hS hg
      have HA1 := Lib.hid (And.intro a1 a2)
      clear a1 a2 a3 a4 hg
      refine hK.out _ _ ?hsrp1216r18o3n6 (fun hS => ?_)
      case hsrp1216r18o3n6 => (exact hS1)
      clear hK K
      try simp only [Act.put, List.setIfInBounds_toArray, List.set_cons_zero, List.set_cons_succ]
      refine wpAnyH_ready (rs := [6]) (by kernel_rfl) (by simp) ?_
      refine AllReadyH.cons (o := { dst := some 65, op := Op.call { callee := Callee.value (Operand.func 38), args := #[Operand.tmp 62, Operand.tmp 64], argTypes := #[25, 9] }, type := 25, pos := "ref.go:71", after := #[{ on := 3, ground := Ground.data }, { on := 5, ground := Ground.data }, { on := 3, ground := Ground.chain }], guard := none }) rfl (fun K hK => ?_) AllReadyH.nil
      go_simp
      refine (HN1.out _ _ _ HA1.out.1 HA1.out.2 HL.out).mono ?_
      rintro e v1 ⟨ad1, cap1, rfl, a1, a2, ⟨a4, a3⟩, hg⟩
      have hS1 := grown_trans hS hg
      have Hfin : Hid (MadeIs w X2 (.returned (.slice ad1 X2.length cap1)) v1) := Lib.hid (made_quiet hgw.out (made_quiet hS ⟨ad1, cap1, rfl, a1, a2, ⟨a4, a3⟩, hg⟩))
      clear a1 a2 a3 a4 hg
      refine hK.out _ _ ?hsrp1216r18o6n7 (fun hS => ?_)
      case hsrp1216r18o6n7 => (exact hS1)
      clear hK K
      try simp only [Act.put, List.setIfInBounds_toArray, List.set_cons_zero, List.set_cons_succ]
      refine wpAnyH_take (i := 7) (oi := { dst := some 2, op := Op.assign (Operand.tmp 65), type := 25, pos := "ref.go:71", after := #[{ on := 6, ground := Ground.data }, { on := 6, ground := Ground.chain }, { on := 0, ground := Ground.phase }, { on := 1, ground := Ground.phase }, { on := 2, ground := Ground.phase }, { on := 3, ground := Ground.phase }, { on := 4, ground := Ground.phase }, { on := 5, ground := Ground.phase }, { on := 6, ground := Ground.phase }], guard := none }) (v := ?vrp1216r18o7n8) rfl (by kernel_rfl) (by kernel_rfl) (by kernel_rfl) (fun _ _ _ h => h) (Or.inl ⟨by rfl, ?hrp1216r18o7n8⟩) hS ?_
      case hrp1216r18o7n8 => (intro wx hx; skip; go_simp; (try with_reducible rfl))
      try simp only [Act.put, List.setIfInBounds_toArray, List.set_cons_zero, List.set_cons_succ]
      refine wpAnyH_done (by kernel_rfl) ?_ _
      go_wp2
      go_ret
      rw [← HX.out]
      exact Hfin.out
    · have hq : putQ r = putL r 2 := by unfold putQ; rw [if_pos hm, hk]; rfl
      have hfin : putL r 2 = UInt8.ofNat r.k :: ((num r.p.size ++ bytesOf r.p) ++ num r.at_) := by simp [putL, hk, flds, Rq.put]
      have Hq := Lib.hid (hq.trans hfin)
      clear hq hfin hm
      have q1 : ((r.k : Int) == 1) = false := by rw [hk]; rfl
      have q2 : ((r.k : Int) == 2) = false := by rw [hk]; rfl
      have q3 : ((r.k : Int) == 3) = false := by rw [hk]; rfl
      have q4 : ((r.k : Int) == 4) = false := by rw [hk]; rfl
      have q5 : ((r.k : Int) == 5) = false := by rw [hk]; rfl
      have q6 : ((r.k : Int) == 6) = false := by rw [hk]; rfl
      have q10 : ((r.k : Int) == 10) = false := by rw [hk]; rfl
      have q12 : ((r.k : Int) == 12) = false := by rw [hk]; rfl
      have q13 : ((r.k : Int) == 13) = true := by rw [hk]; rfl
      obtain ⟨k, hkk⟩ : ∃ k, r.k = k := ⟨_, rfl⟩
      rw [hkk] at q1 q2 q3 q4 q5 q6 q10 q12 q13 c0
      clear hk
      have HN0 := Lib.hid (fun wx ad cap (a1 : At wx ad ((X0 : List UInt8).map bv)) a2 (a3 : 1 ≤ 200100) => RText_any ad 1 cap X0 r.p wx Hl0.out a1 a2 (by omega) (by have := Hf.out.p; omega))
      obtain ⟨X1, hX1⟩ : ∃ X, X0 ++ num r.p.size ++ bytesOf r.p = X := ⟨_, rfl⟩
      rw [hX1] at HN0
      have HN1 := Lib.hid (fun wx ad cap (a1 : At wx ad ((X1 : List UInt8).map bv)) a2 (a3 : (X1 : List UInt8).length ≤ 200100) => RNumber_any ad (X1 : List UInt8).length cap X1 r.at_ wx (by have := Hr.out.at_; omega) rfl a1 a2 (by omega))
      obtain ⟨X2, hX2⟩ : ∃ X, X1 ++ num r.at_ = X := ⟨_, rfl⟩
      rw [hX2] at HN1
      have HX : Hid (X2 = putQ r) := Lib.hid (by rw [Hq.out, ← hX2, ← hX1, H0.out]; simp)
      have HL : Hid (X1.length ≤ 200100) := Lib.hid (by rw [← hX1, H0.out]; have := put_len Hr.out Hf.out .path; simp only [Rq.put, List.length_append] at this; simp only [List.length_append, List.length_cons, List.length_nil] at this ⊢; omega)
      clear hX1 hX2 hkk
      go_upto_region 20 with fail
      refine wp_region_held_drew (S := fun wx => World.grownBy w2 wx none) (by kernel_rfl) (grown_drew (World.grownBy.refl _ none)) (fun hS => ?_)
      generalize World.drew _ = wD at hS ⊢
      refine wpAnyH_take (i := 0) (oi := { dst := some 68, op := Op.move (Operand.tmp 3), type := 25, pos := "ref.go:73", after := #[], guard := none }) (v := ?vrp1316r20o0n1) rfl (by kernel_rfl) (by kernel_rfl) (by kernel_rfl) (fun _ _ _ h => h) (Or.inl ⟨by rfl, ?hrp1316r20o0n1⟩) hS ?_
      case hrp1316r20o0n1 => (intro wx hx; skip; go_simp; (try with_reducible rfl))
      try simp only [Act.put, List.setIfInBounds_toArray, List.set_cons_zero, List.set_cons_succ]
      refine wpAnyH_take (i := 1) (oi := { dst := some 69, op := Op.fieldAddr 24 (Operand.tmp 1) 5, type := 0, pos := "ref.go:73", after := #[], guard := none }) (v := ?vrp1316r20o1n2) rfl (by kernel_rfl) (by kernel_rfl) (by kernel_rfl) (fun _ _ _ h => h) (Or.inl ⟨by rfl, ?hrp1316r20o1n2⟩) hS ?_
      case hrp1316r20o1n2 => (intro wx hx; skip; go_simp; (try with_reducible rfl))
      try simp only [Act.put, List.setIfInBounds_toArray, List.set_cons_zero, List.set_cons_succ]
      refine wpAnyH_take (i := 2) (oi := { dst := some 70, op := Op.load 9 (Operand.tmp 69), type := 9, pos := "ref.go:73", after := #[{ on := 1, ground := Ground.data }], guard := none }) (v := ?vrp1316r20o2n3) rfl (by kernel_rfl) (by kernel_rfl) (by kernel_rfl) (fun _ _ _ h => h) (Or.inl ⟨by rfl, ?hrp1316r20o2n3⟩) hS ?_
      case hrp1316r20o2n3 => (intro wx hx; have y0 := hx.cell c0 (by simp); have y1 := hx.cell c1 (by simp); have y2 := hx.cell c2 (by simp); have y3 := hx.cell c3 (by simp); have y4 := hx.cell c4 (by simp); have y5 := hx.cell c5 (by simp); have y6 := hx.cell c6 (by simp); have y7 := hx.cell c7 (by simp); go_simp; (try with_reducible rfl))
      try simp only [Act.put, List.setIfInBounds_toArray, List.set_cons_zero, List.set_cons_succ]
      refine wpAnyH_take (i := 4) (oi := { dst := some 72, op := Op.fieldAddr 24 (Operand.tmp 1) 3, type := 0, pos := "ref.go:73", after := #[], guard := none }) (v := ?vrp1316r20o4n4) rfl (by kernel_rfl) (by kernel_rfl) (by kernel_rfl) (fun _ _ _ h => h) (Or.inl ⟨by rfl, ?hrp1316r20o4n4⟩) hS ?_
      case hrp1316r20o4n4 => (intro wx hx; skip; go_simp; (try with_reducible rfl))
      try simp only [Act.put, List.setIfInBounds_toArray, List.set_cons_zero, List.set_cons_succ]
      refine wpAnyH_take (i := 5) (oi := { dst := some 73, op := Op.load 22 (Operand.tmp 72), type := 22, pos := "ref.go:73", after := #[{ on := 4, ground := Ground.data }], guard := none }) (v := ?vrp1316r20o5n5) rfl (by kernel_rfl) (by kernel_rfl) (by kernel_rfl) (fun _ _ _ h => h) (Or.inl ⟨by rfl, ?hrp1316r20o5n5⟩) hS ?_
      case hrp1316r20o5n5 => (intro wx hx; have y0 := hx.cell c0 (by simp); have y1 := hx.cell c1 (by simp); have y2 := hx.cell c2 (by simp); have y3 := hx.cell c3 (by simp); have y4 := hx.cell c4 (by simp); have y5 := hx.cell c5 (by simp); have y6 := hx.cell c6 (by simp); have y7 := hx.cell c7 (by simp); go_simp; (try with_reducible rfl))
      try simp only [Act.put, List.setIfInBounds_toArray, List.set_cons_zero, List.set_cons_succ]
      refine wpAnyH_ready (rs := [3]) (by kernel_rfl) (by simp) ?_
      refine AllReadyH.cons (o := { dst := some 71, op := Op.call { callee := Callee.value (Operand.func 38), args := #[Operand.tmp 68, Operand.tmp 70], argTypes := #[25, 9] }, type := 25, pos := "ref.go:73", after := #[{ on := 0, ground := Ground.data }, { on := 2, ground := Ground.data }], guard := none }) rfl (fun K hK => ?_) AllReadyH.nil
      go_simp
      refine (HN0.out _ _ _ (HA0.out.grown hS (fun _ _ _ => by simp)) (fun e => by cases e) (by decide)).mono ?_
      rintro e v0 ⟨ad0, cap0, rfl, a1, a2, ⟨a4, a3⟩, hg⟩
      have hS1 := grown_trans hS hg
      have HA1 := Lib.hid (And.intro a1 a2)
      clear a1 a2 a3 a4 hg
      refine hK.out _ _ ?hsrp1316r20o3n6 (fun hS => ?_)
      case hsrp1316r20o3n6 => (exact hS1)
      clear hK K
      try simp only [Act.put, List.setIfInBounds_toArray, List.set_cons_zero, List.set_cons_succ]
      refine wpAnyH_ready (rs := [6]) (by kernel_rfl) (by simp) ?_
      refine AllReadyH.cons (o := { dst := some 74, op := Op.call { callee := Callee.value (Operand.func 37), args := #[Operand.tmp 71, Operand.tmp 73], argTypes := #[25, 22] }, type := 25, pos := "ref.go:73", after := #[{ on := 3, ground := Ground.data }, { on := 5, ground := Ground.data }, { on := 3, ground := Ground.chain }], guard := none }) rfl (fun K hK => ?_) AllReadyH.nil
      go_simp
      refine (HN1.out _ _ _ HA1.out.1 HA1.out.2 HL.out).mono ?_
      rintro e v1 ⟨ad1, cap1, rfl, a1, a2, ⟨a4, a3⟩, hg⟩
      have hS1 := grown_trans hS hg
      have Hfin : Hid (MadeIs w X2 (.returned (.slice ad1 X2.length cap1)) v1) := Lib.hid (made_quiet hgw.out (made_quiet hS ⟨ad1, cap1, rfl, a1, a2, ⟨a4, a3⟩, hg⟩))
      clear a1 a2 a3 a4 hg
      refine hK.out _ _ ?hsrp1316r20o6n7 (fun hS => ?_)
      case hsrp1316r20o6n7 => (exact hS1)
      clear hK K
      try simp only [Act.put, List.setIfInBounds_toArray, List.set_cons_zero, List.set_cons_succ]
      refine wpAnyH_take (i := 7) (oi := { dst := some 2, op := Op.assign (Operand.tmp 74), type := 25, pos := "ref.go:73", after := #[{ on := 6, ground := Ground.data }, { on := 6, ground := Ground.chain }, { on := 0, ground := Ground.phase }, { on := 1, ground := Ground.phase }, { on := 2, ground := Ground.phase }, { on := 3, ground := Ground.phase }, { on := 4, ground := Ground.phase }, { on := 5, ground := Ground.phase }, { on := 6, ground := Ground.phase }], guard := none }) (v := ?vrp1316r20o7n8) rfl (by kernel_rfl) (by kernel_rfl) (by kernel_rfl) (fun _ _ _ h => h) (Or.inl ⟨by rfl, ?hrp1316r20o7n8⟩) hS ?_
      case hrp1316r20o7n8 => (intro wx hx; skip; go_simp; (try with_reducible rfl))
      try simp only [Act.put, List.setIfInBounds_toArray, List.set_cons_zero, List.set_cons_succ]
      refine wpAnyH_done (by kernel_rfl) ?_ _
      go_wp2
      go_ret
      rw [← HX.out]
      exact Hfin.out
end Go.Proofs.Ytlphmpimpeekcaa
end
section
/- The document's tape as a thing of a call's own; what the document's Get answers. -/
namespace Go.Proofs.Ytlphmpimpeekcaa
open Go.RowKit Go.Grommet

def rtP (w0 : World) (g : Nat) (rest : List UInt8) (t : Bool) : Pr where
  holds w F := (∃ ad len cap, w.heap[g]? = some (.cells #[.slice ad len cap, .bool t] 57 (0, 0)) ∧ rest.length = len ∧ At w0 ad (rest.map bv) ∧ len ≤ cap ∧ len ≤ 1048576 ∧ (ad = none → len = 0)) ∧ F g ∧ ∀ i, F i → i < w.heap.size
  turn := fun h ht hn => ⟨by obtain ⟨ad, len, cap, h1, h2⟩ := h.1; exact ⟨ad, len, cap, ht.obj h1 (hn _ h.2.1), h2⟩, h.2.1, fun i hi => Nat.lt_of_lt_of_le (h.2.2 i hi) ht.size⟩
  old := fun h => h.2.2
theorem own_addRt {w0 w : World} {Ps : List Pr} (h : Grommet.Own w0 w Ps) {ad : Option Addr} {l cap : Nat} {bs : List UInt8} (hat : At w0 ad (bs.map bv)) (hl : bs.length = l) (hc : l ≤ cap) (hb : l ≤ 1048576) (hn : ad = none → l = 0) :
    Grommet.Own w0 (w.alloc (.cells #[.slice ad l cap, .bool false] 57)) (Ps ++ [rtP w0 w.heap.size bs false]) :=
  h.add (P := rtP w0 w.heap.size bs false) (F := fun i => i = w.heap.size) ⟨⟨ad, l, cap, heap_alloc_new w _, hl, hat, hc, hb, hn⟩, rfl, fun i hi => by rw [hi]; simp⟩ (fun i hi => by rw [hi]; exact Nat.le_refl _) (World.grownBy_alloc w _ none)
theorem own_rt {w0 w : World} {Ps : List Pr} (h : Grommet.Own w0 w Ps) (l : Nat) {g : Nat} {rest : List UInt8} {t : Bool} (hl : Ps[l]? = some (rtP w0 g rest t)) :
    RT w w0.heap.size g rest t ∧ ∀ w' rest' t', RT w' w0.heap.size g rest' t' → w.grownBy w' (some g) → Grommet.Own w0 w' (Ps.set l (rtP w0 g rest' t')) := by
  have hg0 := h.grown
  obtain ⟨F, ⟨⟨ad, len, cap, h1, h2, h3, h4, h5, h6⟩, hF, hlt⟩, ht⟩ := h.take l hl
  have hgb : w0.heap.size ≤ g := by
    obtain ⟨Fs, e1, e2, e3, e4⟩ := h
    exact Nat.le_of_not_lt (fun hh => by
      obtain ⟨G, hG⟩ : ∃ G, (rtP w0 g rest t).holds w G ∧ G = Fs l := ⟨Fs l, e1 l _ hl, rfl⟩
      have := e3 l (List.getElem?_eq_some_iff.1 hl).1 g (by rw [← hG.2]; exact hG.1.2.1)
      omega)
  refine ⟨⟨ad, len, cap, h1, h2, h3.grown hg0 (fun _ _ _ => by simp), h4, ?_, hgb, h5, h6⟩, ?_⟩
  · intro x hx hne
    cases rest with
    | nil => exact absurd rfl hne
    | cons c r =>
      obtain ⟨q, o, ha, hc⟩ := h3 0 (bv c) rfl
      rw [hx] at ha
      cases ha
      exact World.block_lt_of_cell? w0 _ hc
  · intro w' rest' t' ⟨ad', len', cap', H⟩ hg
    refine ht _ _ ⟨F, ⟨⟨ad', len', cap', H.cells, H.len_, ?_, H.cap_, H.small, H.nil_⟩, hF, fun i hi => Nat.lt_of_lt_of_le (hlt i hi) hg.size⟩, fun i hi => .inl hi, Turn.of hg (fun i e => by cases e; exact hF)⟩
    intro j u hu
    obtain ⟨q, o, ha, hc⟩ := H.at_ j u hu
    refine ⟨q, o, ha, ?_⟩
    have hne : rest' ≠ [] := by intro e; rw [e] at hu; simp at hu
    have hq := H.low _ ha hne
    rw [← hc]
    have e1 := hg0.block q hq (by simp)
    have e2 := hg.block q (Nat.lt_of_lt_of_le hq hg0.size) (by intro e; cases e; exact absurd hq (Nat.not_lt.2 hgb))
    exact (World.cell?_of_block (e2.trans e1)).symm

/-- What Get makes of a request that it found, at a place of the bytes. -/
structure FinQ (bs : List UInt8) (x : Rq) (a : Nat) (t : Bool) : Prop where
  no : t = true ∨ a < bs.length ∨ mayQ x = false ∨ putQ x ≠ bs → getR bs = zeroRq ∧ getN bs = 4
  yes : mayQ x = true → putQ x = bs → getR bs = x ∧ getN bs = 0
theorem fin_of {bs : List UInt8} {x : Rq} {a : Nat} {t : Bool} (hok : x.Ok) (h : getB bs = true → x = (getE bs).r ∧ t = (getE bs).t ∧ a = (getE bs).a) : FinQ bs x a t := by
  refine ⟨fun hn => ?_, fun hm hp => ?_⟩
  · refine get_no ?_
    cases hb : getB bs with
    | false => rfl
    | true =>
      exfalso
      obtain ⟨e1, e2, e3⟩ := h hb
      obtain ⟨p1, p2, p3, p4⟩ := getB_parts hb
      have p5 := got_put hb
      rw [← e1] at p4 p5
      rcases hn with q | q | q | q
      · rw [e2, p2] at q; cases q
      · omega
      · rw [q] at p4; cases p4
      · exact q p5
  · have := put_getR hok hm
    rw [hp] at this
    exact this
theorem getE_one {bs : List UInt8} {k : Nat} {f : Fd} (hk : (byteR bs 0 false).1 = k) (hf : flds k = [f]) : getE bs = getF bs (get0 bs) f := by
  unfold getE getL
  rw [hk, hf]; rfl
theorem getE_two {bs : List UInt8} {k : Nat} {f g : Fd} (hk : (byteR bs 0 false).1 = k) (hf : flds k = [f, g]) : getE bs = getF bs (getF bs (get0 bs) f) g := by
  unfold getE getL
  rw [hk, hf]; rfl
theorem get_kind {bs : List UInt8} (h : getB bs = true) : 1 ≤ (byteR bs 0 false).1 ∧ (byteR bs 0 false).1 ≤ 13 := by
  have := isKind_may (getB_parts h).2.2.2
  rwa [getE_k] at this
theorem textR_len (all : List UInt8) (a : Nat) (t : Bool) (m : Int) : (textR all a t m).1.length ≤ all.length := by
  unfold textR
  split
  · simp
  · split
    · simp
    · split
      · simp
      · simp only [List.length_take, List.length_drop]; omega
theorem byteR_le (all : List UInt8) (a : Nat) (t : Bool) (h : a ≤ all.length) : (byteR all a t).2.1 ≤ all.length := by
  unfold byteR
  split
  · exact h
  · split
    · show a + 1 ≤ _; omega
    · exact h
theorem numberR_le (all : List UInt8) (a : Nat) (t : Bool) (h : a ≤ all.length) : (numberR all a t).2.1 ≤ all.length := by
  unfold numberR
  split
  · exact h
  · split
    · exact h
    · rename_i n k hd
      have := (numAt_lt _ _ _ hd).2.2
      rw [List.length_drop] at this
      show a + k ≤ _; omega
theorem textR_le (all : List UInt8) (a : Nat) (t : Bool) (m : Int) (h : a ≤ all.length) : (textR all a t m).2.1 ≤ all.length := by
  unfold textR
  split
  · exact h
  · split
    · exact h
    · split
      · exact h
      · rename_i n k hd hh
        show a + k + n ≤ _; omega
end Go.Proofs.Ytlphmpimpeekcaa
end
