/- Package request: the bytes that are put together; what Put's hand does at each field. -/
import Derived.Test.YtlphmpimpeekcaaReqC
import Derived.Test.YtlphmpimpeekcaaOctD
namespace Go.Proofs.Ytlphmpimpeekcaa
open Go.RowKit Go.Grommet

/-- A variable that holds these bytes. -/
def accP (B : Nat) (bs : List UInt8) : Pr where
  holds w F := ∃ ad cap, w.heap[B]? = some (.cells #[.slice ad bs.length cap] 25 (0, 0)) ∧ At w ad (bs.map bv) ∧ ((ad = none → bs.length = 0 ∧ cap = 0) ∧ bs.length ≤ cap) ∧ (∀ a, ad = some a → F a.block) ∧ F B ∧ ∀ i, F i → i < w.heap.size
  turn := fun h ht hn => by
    obtain ⟨ad, cap, h1, h2, h3, h4, h5, h6⟩ := h
    exact ⟨ad, cap, ht.obj h1 (hn _ h5), ht.at h2 (fun a e _ => hn _ (h4 a e)), h3, h4, h5, fun i hi => Nat.lt_of_lt_of_le (h6 i hi) ht.size⟩
  old := fun h => by obtain ⟨_, _, _, _, _, _, _, h6⟩ := h; exact h6
/-- What lies there, and what becomes of all when other bytes are laid there. -/
theorem own_acc {w0 w : World} {Ps : List Pr} (h : Grommet.Own w0 w Ps) (l : Nat) {B : Nat} {bs : List UInt8} (hl : Ps[l]? = some (accP B bs)) :
    ∃ ad cap, w.cell? ⟨B, 0, none⟩ = some (.slice ad bs.length cap) ∧ At w ad (bs.map bv) ∧ (ad = none → bs.length = 0 ∧ cap = 0) ∧
      ∀ w1 ad2 cap2 (bs2 : List UInt8), w.grownBy w1 none → At w1 ad2 (bs2.map bv) → ((ad2 = none → bs2.length = 0 ∧ cap2 = 0) ∧ bs2.length ≤ cap2) → (∀ a, ad2 = some a → w.heap.size ≤ a.block ∧ a.block < w1.heap.size) →
        w1.cell? ⟨B, 0, none⟩ = some (.slice ad bs.length cap) ∧ w1.frozen? ⟨B, 0, none⟩ = false ∧ Grommet.Own w0 (w1.setCell ⟨B, 0, none⟩ (.slice ad2 bs2.length cap2)) (Ps.set l (accP B bs2)) := by
  obtain ⟨F, ⟨ad, cap, h1, h2, h3, h4, h5, h6⟩, ht⟩ := h.take l hl
  have hBs := (Array.getElem?_eq_some_iff.1 h1).1
  refine ⟨ad, cap, by simp [World.cell?, h1], h2, h3.1, fun w1 ad2 cap2 bs2 hg a1 a2 a3 => ?_⟩
  have hb1 := (hg.block B hBs (by simp)).trans h1
  refine ⟨by simp [World.cell?, hb1], by simp [World.frozen?, hb1], ht _ _ ⟨fun i => F i ∨ w.heap.size ≤ i ∧ i < w1.heap.size, ⟨ad2, cap2, ?_, ?_, a2, ?_, .inl h5, ?_⟩, ?_, ?_⟩⟩
  · have := heap_setCell_at (o := 0) hb1 (.slice ad2 bs2.length cap2)
    exact this
  · refine a1.grown (grown_setCell _ _ _) (fun a e hne => ?_)
    have := (a3 a e).1
    intro hc
    have e2 : a.block = B := by simpa using hc
    have hBs2 : B < w.heap.size := hBs
    omega
  · intro a e; exact .inr (a3 a e)
  · intro i hi
    have : (w1.setCell ⟨B, 0, none⟩ (.slice ad2 bs2.length cap2)).heap.size = w1.heap.size := by simp [World.setCell]
    rw [this]
    rcases hi with hi | hi
    · exact Nat.lt_of_lt_of_le (h6 i hi) hg.size
    · exact hi.2
  · intro i hi
    exact hi.imp id (fun x => x.1)
  · exact (Turn.of (F := F) hg (fun i e => by cases e)).grown (grown_setCell _ _ _) (fun i e => by cases e; exact .inl h5)
def pnumF (B : Nat) : Value := .func (.func 33) #[] #[.pointer (some ⟨B, 0, none⟩)]
def ptxtF (B : Nat) : Value := .func (.func 35) #[] #[.pointer (some ⟨B, 0, none⟩)]
theorem At.below {w : World} {ad : Option Addr} {xs : List Value} (h : At w ad xs) (hne : xs ≠ []) : ∀ a, ad = some a → a.block < w.heap.size := by
  intro a e
  cases xs with
  | nil => exact absurd rfl hne
  | cons u us =>
    obtain ⟨g, o, he, hc⟩ := h 0 u rfl
    rw [he] at e; cases e
    exact World.block_lt_of_cell? _ _ hc
theorem num_ne (n : Nat) : num n ≠ [] := by unfold num; exact List.cons_ne_nil _ _


set_option maxRecDepth 100000 in
theorem putNum (l B : Nat) (n m : Nat) (hn : n < 2 ^ 64) (bs : List UInt8) (hb : bs.length ≤ 1000000) (w0 w : World) (Ps : List Pr) (h : Grommet.Own w0 w Ps) (hl : Ps[l]? = some (accP B bs)) :
    Calls Try.prog 33 #[.int .u64 (n : Int), .int .u64 (m : Int), .pointer (some ⟨B, 0, none⟩)] w fun e w' => e = .returned (.int .u64 (n : Int)) ∧ Grommet.Own w0 w' (Ps.set l (accP B (bs ++ num n))) := by
  obtain ⟨ad, cap, c1, hat, hnil, hst⟩ := own_acc h l hl
  have HN := Lib.hid (Number_any ad bs.length cap bs n w hn rfl hat hnil (by omega))
  have HS := Lib.hid hst
  have hne : (bs ++ num n).map bv ≠ [] := by
    intro e
    have := congrArg List.length e
    simp [num] at this
  have Hne := Lib.hid hne
  generalize bs ++ num n = X at HN HS Hne ⊢
  clear hst hat h hl hne
  go_enter Try.func33, Try.ntmps33
  go_wp2_with fail
  refine HN.out.mono ?_
  rintro e w1 ⟨ad2, cap2, rfl, a1, a2, ⟨a4, a3⟩, hg⟩
  obtain ⟨d1, d2, d3⟩ := HS.out w1 ad2 cap2 X hg a1 ⟨a2, a4⟩ (fun a e => ⟨a3 a e, At.below a1 Hne.out a e⟩)
  have d3 := Lib.hid d3
  clear HN HS a1 a2 a3 a4 hg
  go_wp2
  go_ret
  exact ⟨rfl, d3.out⟩

set_option maxRecDepth 100000 in
theorem putTxt (l B : Nat) (s : ByteArray) (m : Nat) (hs : s.size ≤ 100000) (bs : List UInt8) (hb : bs.length ≤ 1000000) (w0 w : World) (Ps : List Pr) (h : Grommet.Own w0 w Ps) (hl : Ps[l]? = some (accP B bs)) :
    Calls Try.prog 35 #[.string s, .int .i64 (m : Int), .pointer (some ⟨B, 0, none⟩)] w fun e w' => e = .returned (.string s) ∧ Grommet.Own w0 w' (Ps.set l (accP B (bs ++ num s.size ++ bytesOf s))) := by
  obtain ⟨ad, cap, c1, hat, hnil, hst⟩ := own_acc h l hl
  have HN := Lib.hid (Text_any ad bs.length cap bs s w rfl hat hnil (by omega))
  have HS := Lib.hid hst
  have hne : (bs ++ num s.size ++ bytesOf s).map bv ≠ [] := by
    intro e
    have := congrArg List.length e
    simp [num] at this
  have Hne := Lib.hid hne
  generalize bs ++ num s.size ++ bytesOf s = X at HN HS Hne ⊢
  clear hst hat h hl hne
  go_enter Try.func35, Try.ntmps35
  go_wp2_with fail
  refine HN.out.mono ?_
  rintro e w1 ⟨ad2, cap2, rfl, a1, a2, ⟨a4, a3⟩, hg⟩
  obtain ⟨d1, d2, d3⟩ := HS.out w1 ad2 cap2 X hg a1 ⟨a2, a4⟩ (fun a e => ⟨a3 a e, At.below a1 Hne.out a e⟩)
  have d3 := Lib.hid d3
  clear HN HS a1 a2 a3 a4 hg
  go_wp2
  go_ret
  exact ⟨rfl, d3.out⟩

/-- A field's bytes. -/
def Rq.put (r : Rq) : Fd → List UInt8
  | .path => num r.p.size ++ bytesOf r.p
  | .flags => num r.fl
  | .fd => num r.fd
  | .size => num r.sz
  | .data => num r.d.size ++ bytesOf r.d
  | .at => num r.at_
  | .to => num r.t.size ++ bytesOf r.t
/-- Its texts are no longer than a machine's. -/
structure Rq.Few (r : Rq) : Prop where
  p : r.p.size ≤ 100000
  t : r.t.size ≤ 100000
  d : r.d.size ≤ 100000
theorem own_accAt {w0 w : World} {Ps : List Pr} (h : Grommet.Own w0 w Ps) (l : Nat) {B : Nat} {bs : List UInt8} (hl : Ps[l]? = some (accP B bs)) :
    ∃ ad cap, w.cell? ⟨B, 0, none⟩ = some (.slice ad bs.length cap) ∧ At w ad (bs.map bv) ∧ (ad = none → bs.length = 0 ∧ cap = 0) ∧ bs.length ≤ cap ∧ ∀ a, ad = some a → w0.heap.size ≤ a.block := by
  obtain ⟨Fs, h1, h2, h3, h4⟩ := h
  obtain ⟨ad, cap, a1, a2, a3, a4, a5, a6⟩ := h1 l _ hl
  exact ⟨ad, cap, by simp [World.cell?, a1], a2, a3.1, a3.2, fun a e => h3 l (List.getElem?_eq_some_iff.1 hl).1 _ (a4 a e)⟩


set_option maxRecDepth 100000 in
set_option maxHeartbeats 1000000 in
theorem put_path (k l R B : Nat) (r : Rq) (_hr : r.Ok) (hf : r.Few) (bs : List UInt8) (hb : bs.length ≤ 1000000) (w0 w : World) (Ps : List Pr) (h : Grommet.Own w0 w Ps) (hk : Ps[k]? = some (boxP R 24 r.cs)) (hl : Ps[l]? = some (accP B bs)) (hkl : l ≠ k) :
    Calls Try.prog 47 #[.pointer (some ⟨R, 0, none⟩), .agg #[pnumF B, ptxtF B]] w fun e w' => (∃ v, e = .returned v) ∧ Grommet.Own w0 w' ((Ps.set l (accP B (bs ++ r.put .path))).set k (boxP R 24 r.cs)) := by
  have hkn := (List.getElem?_eq_some_iff.1 hk).1
  have hln := (List.getElem?_eq_some_iff.1 hl).1
  have hO1 := h.addBox 47 #[pnumF B, ptxtF B]
  obtain ⟨H, hH⟩ : ∃ H, w.heap.size = H := ⟨_, rfl⟩
  rw [hH] at hO1
  obtain ⟨c1, _⟩ := own_cellB hO1 Ps.length (lastQ _ _) 1 rfl
  have hk1 : (Ps ++ [boxP H 47 #[pnumF B, ptxtF B]])[k]? = some (boxP R 24 r.cs) := by rw [List.getElem?_append_left hkn]; exact hk
  have hl1 : (Ps ++ [boxP H 47 #[pnumF B, ptxtF B]])[l]? = some (accP B bs) := by rw [List.getElem?_append_left hln]; exact hl
  obtain ⟨c2, _⟩ := own_cellB hO1 k hk1 5 (u := .string r.p) rfl
  have HC := Lib.hid (putTxt l B r.p 200 hf.p bs hb w0 _ _ (hO1.quiet (grown_drew (World.grownBy.refl _ none))) hl1)
  have HS := Lib.hid (fun wx (hO : Grommet.Own w0 wx ((Ps ++ [boxP H 47 #[pnumF B, ptxtF B]]).set l (accP B (bs ++ num r.p.size ++ bytesOf r.p)))) => (show wx.cell? ⟨R, 5, none⟩ = some (.string r.p) ∧ wx.frozen? ⟨R, 5, none⟩ = false ∧ Grommet.Own w0 (wx.setCell ⟨R, 5, none⟩ (.string r.p)) ((Ps.set l (accP B (bs ++ r.put .path))).set k (boxP R 24 r.cs)) by
    have hk2 : ((Ps ++ [boxP H 47 #[pnumF B, ptxtF B]]).set l (accP B (bs ++ num r.p.size ++ bytesOf r.p)))[k]? = some (boxP R 24 r.cs) := by rw [List.getElem?_set_ne hkl]; exact hk1
    obtain ⟨a1, a2⟩ := own_cellB hO k hk2 5 (u := .string r.p) rfl
    have a3 := own_put hO k hk2 5 (.string r.p)
    rw [List.set_append_left _ _ hln, List.set_append_left _ _ (by rw [List.length_set]; exact hkn)] at a3
    unfold Rq.put
    rw [← List.append_assoc]
    exact ⟨a1, a2, a3.less⟩))
  unfold pnumF ptxtF at *
  clear h hk hl hO1 hk1 hl1 hkn hln _hr hf
  go_enter Try.func47, Try.ntmps47
  go_upto_region 1 with fail
  go_region_law (go_simp; refine HC.out.mono ?_; rintro e w3 ⟨rfl, hO3⟩; obtain ⟨d1, d2, d3⟩ := HS.out w3 hO3; replace d3 := Lib.hid d3; clear HS hO3)
  all_goals go_wp2
  all_goals go_end0
  all_goals exact ⟨⟨_, rfl⟩, d3.out⟩

set_option maxRecDepth 100000 in
set_option maxHeartbeats 1000000 in
theorem put_flags (k l R B : Nat) (r : Rq) (hr : r.Ok) (_hf : r.Few) (bs : List UInt8) (hb : bs.length ≤ 1000000) (w0 w : World) (Ps : List Pr) (h : Grommet.Own w0 w Ps) (hk : Ps[k]? = some (boxP R 24 r.cs)) (hl : Ps[l]? = some (accP B bs)) (hkl : l ≠ k) :
    Calls Try.prog 48 #[.pointer (some ⟨R, 0, none⟩), .agg #[pnumF B, ptxtF B]] w fun e w' => (∃ v, e = .returned v) ∧ Grommet.Own w0 w' ((Ps.set l (accP B (bs ++ r.put .flags))).set k (boxP R 24 r.cs)) := by
  have hkn := (List.getElem?_eq_some_iff.1 hk).1
  have hln := (List.getElem?_eq_some_iff.1 hl).1
  have wf : IntKind.u64.wrap (r.fl : Int) = (r.fl : Int) := IntWalk.u64_in _ ⟨by omega, by have := hr.fl; omega⟩
  have wf8 : IntKind.u8.wrap (r.fl : Int) = (r.fl : Int) := IntWalk.u8_in _ ⟨by omega, by have := hr.fl; omega⟩
  have hO1 := h.addBox 47 #[pnumF B, ptxtF B]
  obtain ⟨H, hH⟩ : ∃ H, w.heap.size = H := ⟨_, rfl⟩
  rw [hH] at hO1
  obtain ⟨c1, _⟩ := own_cellB hO1 Ps.length (lastQ _ _) 0 rfl
  have hk1 : (Ps ++ [boxP H 47 #[pnumF B, ptxtF B]])[k]? = some (boxP R 24 r.cs) := by rw [List.getElem?_append_left hkn]; exact hk
  have hl1 : (Ps ++ [boxP H 47 #[pnumF B, ptxtF B]])[l]? = some (accP B bs) := by rw [List.getElem?_append_left hln]; exact hl
  obtain ⟨c2, _⟩ := own_cellB hO1 k hk1 1 (u := .int .u8 (r.fl : Int)) rfl
  have HC := Lib.hid (putNum l B r.fl 7 (by have := hr.fl; omega) bs hb w0 _ _ (hO1.quiet (grown_drew (World.grownBy.refl _ none))) hl1)
  have HS := Lib.hid (fun wx (hO : Grommet.Own w0 wx ((Ps ++ [boxP H 47 #[pnumF B, ptxtF B]]).set l (accP B (bs ++ num r.fl)))) => (show wx.cell? ⟨R, 1, none⟩ = some (.int .u8 (r.fl : Int)) ∧ wx.frozen? ⟨R, 1, none⟩ = false ∧ Grommet.Own w0 (wx.setCell ⟨R, 1, none⟩ (.int .u8 (r.fl : Int))) ((Ps.set l (accP B (bs ++ r.put .flags))).set k (boxP R 24 r.cs)) by
    have hk2 : ((Ps ++ [boxP H 47 #[pnumF B, ptxtF B]]).set l (accP B (bs ++ num r.fl)))[k]? = some (boxP R 24 r.cs) := by rw [List.getElem?_set_ne hkl]; exact hk1
    obtain ⟨a1, a2⟩ := own_cellB hO k hk2 1 (u := .int .u8 (r.fl : Int)) rfl
    have a3 := own_put hO k hk2 1 (.int .u8 (r.fl : Int))
    rw [List.set_append_left _ _ hln, List.set_append_left _ _ (by rw [List.length_set]; exact hkn)] at a3
    unfold Rq.put
    skip
    exact ⟨a1, a2, a3.less⟩))
  unfold pnumF ptxtF at *
  clear h hk hl hO1 hk1 hl1 hkn hln hr _hf
  go_enter Try.func48, Try.ntmps48
  go_upto_region 1 with fail
  go_region_law (go_simp; refine HC.out.mono ?_; rintro e w3 ⟨rfl, hO3⟩; obtain ⟨d1, d2, d3⟩ := HS.out w3 hO3; replace d3 := Lib.hid d3; clear HS hO3)
  all_goals go_wp2
  all_goals go_end0
  all_goals exact ⟨⟨_, rfl⟩, d3.out⟩

set_option maxRecDepth 100000 in
set_option maxHeartbeats 1000000 in
theorem put_fd (k l R B : Nat) (r : Rq) (hr : r.Ok) (_hf : r.Few) (bs : List UInt8) (hb : bs.length ≤ 1000000) (w0 w : World) (Ps : List Pr) (h : Grommet.Own w0 w Ps) (hk : Ps[k]? = some (boxP R 24 r.cs)) (hl : Ps[l]? = some (accP B bs)) (hkl : l ≠ k) :
    Calls Try.prog 49 #[.pointer (some ⟨R, 0, none⟩), .agg #[pnumF B, ptxtF B]] w fun e w' => (∃ v, e = .returned v) ∧ Grommet.Own w0 w' ((Ps.set l (accP B (bs ++ r.put .fd))).set k (boxP R 24 r.cs)) := by
  have hkn := (List.getElem?_eq_some_iff.1 hk).1
  have hln := (List.getElem?_eq_some_iff.1 hl).1
  have hO1 := h.addBox 47 #[pnumF B, ptxtF B]
  obtain ⟨H, hH⟩ : ∃ H, w.heap.size = H := ⟨_, rfl⟩
  rw [hH] at hO1
  obtain ⟨c1, _⟩ := own_cellB hO1 Ps.length (lastQ _ _) 0 rfl
  have hk1 : (Ps ++ [boxP H 47 #[pnumF B, ptxtF B]])[k]? = some (boxP R 24 r.cs) := by rw [List.getElem?_append_left hkn]; exact hk
  have hl1 : (Ps ++ [boxP H 47 #[pnumF B, ptxtF B]])[l]? = some (accP B bs) := by rw [List.getElem?_append_left hln]; exact hl
  obtain ⟨c2, _⟩ := own_cellB hO1 k hk1 2 (u := .int .u64 (r.fd : Int)) rfl
  have HC := Lib.hid (putNum l B r.fd 18446744073709551615 (by have := hr.fd; omega) bs hb w0 _ _ (hO1.quiet (grown_drew (World.grownBy.refl _ none))) hl1)
  have HS := Lib.hid (fun wx (hO : Grommet.Own w0 wx ((Ps ++ [boxP H 47 #[pnumF B, ptxtF B]]).set l (accP B (bs ++ num r.fd)))) => (show wx.cell? ⟨R, 2, none⟩ = some (.int .u64 (r.fd : Int)) ∧ wx.frozen? ⟨R, 2, none⟩ = false ∧ Grommet.Own w0 (wx.setCell ⟨R, 2, none⟩ (.int .u64 (r.fd : Int))) ((Ps.set l (accP B (bs ++ r.put .fd))).set k (boxP R 24 r.cs)) by
    have hk2 : ((Ps ++ [boxP H 47 #[pnumF B, ptxtF B]]).set l (accP B (bs ++ num r.fd)))[k]? = some (boxP R 24 r.cs) := by rw [List.getElem?_set_ne hkl]; exact hk1
    obtain ⟨a1, a2⟩ := own_cellB hO k hk2 2 (u := .int .u64 (r.fd : Int)) rfl
    have a3 := own_put hO k hk2 2 (.int .u64 (r.fd : Int))
    rw [List.set_append_left _ _ hln, List.set_append_left _ _ (by rw [List.length_set]; exact hkn)] at a3
    unfold Rq.put
    skip
    exact ⟨a1, a2, a3.less⟩))
  unfold pnumF ptxtF at *
  clear h hk hl hO1 hk1 hl1 hkn hln hr _hf
  go_enter Try.func49, Try.ntmps49
  go_upto_region 1 with fail
  go_region_law (go_simp; refine HC.out.mono ?_; rintro e w3 ⟨rfl, hO3⟩; obtain ⟨d1, d2, d3⟩ := HS.out w3 hO3; replace d3 := Lib.hid d3; clear HS hO3)
  all_goals go_wp2
  all_goals go_end0
  all_goals exact ⟨⟨_, rfl⟩, d3.out⟩

set_option maxRecDepth 100000 in
set_option maxHeartbeats 1000000 in
theorem put_size (k l R B : Nat) (r : Rq) (hr : r.Ok) (_hf : r.Few) (bs : List UInt8) (hb : bs.length ≤ 1000000) (w0 w : World) (Ps : List Pr) (h : Grommet.Own w0 w Ps) (hk : Ps[k]? = some (boxP R 24 r.cs)) (hl : Ps[l]? = some (accP B bs)) (hkl : l ≠ k) :
    Calls Try.prog 50 #[.pointer (some ⟨R, 0, none⟩), .agg #[pnumF B, ptxtF B]] w fun e w' => (∃ v, e = .returned v) ∧ Grommet.Own w0 w' ((Ps.set l (accP B (bs ++ r.put .size))).set k (boxP R 24 r.cs)) := by
  have hkn := (List.getElem?_eq_some_iff.1 hk).1
  have hln := (List.getElem?_eq_some_iff.1 hl).1
  have hO1 := h.addBox 47 #[pnumF B, ptxtF B]
  obtain ⟨H, hH⟩ : ∃ H, w.heap.size = H := ⟨_, rfl⟩
  rw [hH] at hO1
  obtain ⟨c1, _⟩ := own_cellB hO1 Ps.length (lastQ _ _) 0 rfl
  have hk1 : (Ps ++ [boxP H 47 #[pnumF B, ptxtF B]])[k]? = some (boxP R 24 r.cs) := by rw [List.getElem?_append_left hkn]; exact hk
  have hl1 : (Ps ++ [boxP H 47 #[pnumF B, ptxtF B]])[l]? = some (accP B bs) := by rw [List.getElem?_append_left hln]; exact hl
  obtain ⟨c2, _⟩ := own_cellB hO1 k hk1 4 (u := .int .u64 (r.sz : Int)) rfl
  have HC := Lib.hid (putNum l B r.sz 18446744073709551615 (by have := hr.sz; omega) bs hb w0 _ _ (hO1.quiet (grown_drew (World.grownBy.refl _ none))) hl1)
  have HS := Lib.hid (fun wx (hO : Grommet.Own w0 wx ((Ps ++ [boxP H 47 #[pnumF B, ptxtF B]]).set l (accP B (bs ++ num r.sz)))) => (show wx.cell? ⟨R, 4, none⟩ = some (.int .u64 (r.sz : Int)) ∧ wx.frozen? ⟨R, 4, none⟩ = false ∧ Grommet.Own w0 (wx.setCell ⟨R, 4, none⟩ (.int .u64 (r.sz : Int))) ((Ps.set l (accP B (bs ++ r.put .size))).set k (boxP R 24 r.cs)) by
    have hk2 : ((Ps ++ [boxP H 47 #[pnumF B, ptxtF B]]).set l (accP B (bs ++ num r.sz)))[k]? = some (boxP R 24 r.cs) := by rw [List.getElem?_set_ne hkl]; exact hk1
    obtain ⟨a1, a2⟩ := own_cellB hO k hk2 4 (u := .int .u64 (r.sz : Int)) rfl
    have a3 := own_put hO k hk2 4 (.int .u64 (r.sz : Int))
    rw [List.set_append_left _ _ hln, List.set_append_left _ _ (by rw [List.length_set]; exact hkn)] at a3
    unfold Rq.put
    skip
    exact ⟨a1, a2, a3.less⟩))
  unfold pnumF ptxtF at *
  clear h hk hl hO1 hk1 hl1 hkn hln hr _hf
  go_enter Try.func50, Try.ntmps50
  go_upto_region 1 with fail
  go_region_law (go_simp; refine HC.out.mono ?_; rintro e w3 ⟨rfl, hO3⟩; obtain ⟨d1, d2, d3⟩ := HS.out w3 hO3; replace d3 := Lib.hid d3; clear HS hO3)
  all_goals go_wp2
  all_goals go_end0
  all_goals exact ⟨⟨_, rfl⟩, d3.out⟩

set_option maxRecDepth 100000 in
set_option maxHeartbeats 1000000 in
theorem put_data (k l R B : Nat) (r : Rq) (_hr : r.Ok) (hf : r.Few) (bs : List UInt8) (hb : bs.length ≤ 1000000) (w0 w : World) (Ps : List Pr) (h : Grommet.Own w0 w Ps) (hk : Ps[k]? = some (boxP R 24 r.cs)) (hl : Ps[l]? = some (accP B bs)) (hkl : l ≠ k) :
    Calls Try.prog 51 #[.pointer (some ⟨R, 0, none⟩), .agg #[pnumF B, ptxtF B]] w fun e w' => (∃ v, e = .returned v) ∧ Grommet.Own w0 w' ((Ps.set l (accP B (bs ++ r.put .data))).set k (boxP R 24 r.cs)) := by
  have hkn := (List.getElem?_eq_some_iff.1 hk).1
  have hln := (List.getElem?_eq_some_iff.1 hl).1
  have hO1 := h.addBox 47 #[pnumF B, ptxtF B]
  obtain ⟨H, hH⟩ : ∃ H, w.heap.size = H := ⟨_, rfl⟩
  rw [hH] at hO1
  obtain ⟨c1, _⟩ := own_cellB hO1 Ps.length (lastQ _ _) 1 rfl
  have hk1 : (Ps ++ [boxP H 47 #[pnumF B, ptxtF B]])[k]? = some (boxP R 24 r.cs) := by rw [List.getElem?_append_left hkn]; exact hk
  have hl1 : (Ps ++ [boxP H 47 #[pnumF B, ptxtF B]])[l]? = some (accP B bs) := by rw [List.getElem?_append_left hln]; exact hl
  obtain ⟨c2, _⟩ := own_cellB hO1 k hk1 7 (u := .string r.d) rfl
  have HC := Lib.hid (putTxt l B r.d 128 hf.d bs hb w0 _ _ (hO1.quiet (grown_drew (World.grownBy.refl _ none))) hl1)
  have HS := Lib.hid (fun wx (hO : Grommet.Own w0 wx ((Ps ++ [boxP H 47 #[pnumF B, ptxtF B]]).set l (accP B (bs ++ num r.d.size ++ bytesOf r.d)))) => (show wx.cell? ⟨R, 7, none⟩ = some (.string r.d) ∧ wx.frozen? ⟨R, 7, none⟩ = false ∧ Grommet.Own w0 (wx.setCell ⟨R, 7, none⟩ (.string r.d)) ((Ps.set l (accP B (bs ++ r.put .data))).set k (boxP R 24 r.cs)) by
    have hk2 : ((Ps ++ [boxP H 47 #[pnumF B, ptxtF B]]).set l (accP B (bs ++ num r.d.size ++ bytesOf r.d)))[k]? = some (boxP R 24 r.cs) := by rw [List.getElem?_set_ne hkl]; exact hk1
    obtain ⟨a1, a2⟩ := own_cellB hO k hk2 7 (u := .string r.d) rfl
    have a3 := own_put hO k hk2 7 (.string r.d)
    rw [List.set_append_left _ _ hln, List.set_append_left _ _ (by rw [List.length_set]; exact hkn)] at a3
    unfold Rq.put
    rw [← List.append_assoc]
    exact ⟨a1, a2, a3.less⟩))
  unfold pnumF ptxtF at *
  clear h hk hl hO1 hk1 hl1 hkn hln _hr hf
  go_enter Try.func51, Try.ntmps51
  go_upto_region 1 with fail
  go_region_law (go_simp; refine HC.out.mono ?_; rintro e w3 ⟨rfl, hO3⟩; obtain ⟨d1, d2, d3⟩ := HS.out w3 hO3; replace d3 := Lib.hid d3; clear HS hO3)
  all_goals go_wp2
  all_goals go_end0
  all_goals exact ⟨⟨_, rfl⟩, d3.out⟩

set_option maxRecDepth 100000 in
set_option maxHeartbeats 1000000 in
theorem put_at (k l R B : Nat) (r : Rq) (hr : r.Ok) (_hf : r.Few) (bs : List UInt8) (hb : bs.length ≤ 1000000) (w0 w : World) (Ps : List Pr) (h : Grommet.Own w0 w Ps) (hk : Ps[k]? = some (boxP R 24 r.cs)) (hl : Ps[l]? = some (accP B bs)) (hkl : l ≠ k) :
    Calls Try.prog 52 #[.pointer (some ⟨R, 0, none⟩), .agg #[pnumF B, ptxtF B]] w fun e w' => (∃ v, e = .returned v) ∧ Grommet.Own w0 w' ((Ps.set l (accP B (bs ++ r.put .at))).set k (boxP R 24 r.cs)) := by
  have hkn := (List.getElem?_eq_some_iff.1 hk).1
  have hln := (List.getElem?_eq_some_iff.1 hl).1
  have hO1 := h.addBox 47 #[pnumF B, ptxtF B]
  obtain ⟨H, hH⟩ : ∃ H, w.heap.size = H := ⟨_, rfl⟩
  rw [hH] at hO1
  obtain ⟨c1, _⟩ := own_cellB hO1 Ps.length (lastQ _ _) 0 rfl
  have hk1 : (Ps ++ [boxP H 47 #[pnumF B, ptxtF B]])[k]? = some (boxP R 24 r.cs) := by rw [List.getElem?_append_left hkn]; exact hk
  have hl1 : (Ps ++ [boxP H 47 #[pnumF B, ptxtF B]])[l]? = some (accP B bs) := by rw [List.getElem?_append_left hln]; exact hl
  obtain ⟨c2, _⟩ := own_cellB hO1 k hk1 3 (u := .int .u64 (r.at_ : Int)) rfl
  have HC := Lib.hid (putNum l B r.at_ 18446744073709551615 (by have := hr.at_; omega) bs hb w0 _ _ (hO1.quiet (grown_drew (World.grownBy.refl _ none))) hl1)
  have HS := Lib.hid (fun wx (hO : Grommet.Own w0 wx ((Ps ++ [boxP H 47 #[pnumF B, ptxtF B]]).set l (accP B (bs ++ num r.at_)))) => (show wx.cell? ⟨R, 3, none⟩ = some (.int .u64 (r.at_ : Int)) ∧ wx.frozen? ⟨R, 3, none⟩ = false ∧ Grommet.Own w0 (wx.setCell ⟨R, 3, none⟩ (.int .u64 (r.at_ : Int))) ((Ps.set l (accP B (bs ++ r.put .at))).set k (boxP R 24 r.cs)) by
    have hk2 : ((Ps ++ [boxP H 47 #[pnumF B, ptxtF B]]).set l (accP B (bs ++ num r.at_)))[k]? = some (boxP R 24 r.cs) := by rw [List.getElem?_set_ne hkl]; exact hk1
    obtain ⟨a1, a2⟩ := own_cellB hO k hk2 3 (u := .int .u64 (r.at_ : Int)) rfl
    have a3 := own_put hO k hk2 3 (.int .u64 (r.at_ : Int))
    rw [List.set_append_left _ _ hln, List.set_append_left _ _ (by rw [List.length_set]; exact hkn)] at a3
    unfold Rq.put
    skip
    exact ⟨a1, a2, a3.less⟩))
  unfold pnumF ptxtF at *
  clear h hk hl hO1 hk1 hl1 hkn hln hr _hf
  go_enter Try.func52, Try.ntmps52
  go_upto_region 1 with fail
  go_region_law (go_simp; refine HC.out.mono ?_; rintro e w3 ⟨rfl, hO3⟩; obtain ⟨d1, d2, d3⟩ := HS.out w3 hO3; replace d3 := Lib.hid d3; clear HS hO3)
  all_goals go_wp2
  all_goals go_end0
  all_goals exact ⟨⟨_, rfl⟩, d3.out⟩

set_option maxRecDepth 100000 in
set_option maxHeartbeats 1000000 in
theorem put_to (k l R B : Nat) (r : Rq) (_hr : r.Ok) (hf : r.Few) (bs : List UInt8) (hb : bs.length ≤ 1000000) (w0 w : World) (Ps : List Pr) (h : Grommet.Own w0 w Ps) (hk : Ps[k]? = some (boxP R 24 r.cs)) (hl : Ps[l]? = some (accP B bs)) (hkl : l ≠ k) :
    Calls Try.prog 53 #[.pointer (some ⟨R, 0, none⟩), .agg #[pnumF B, ptxtF B]] w fun e w' => (∃ v, e = .returned v) ∧ Grommet.Own w0 w' ((Ps.set l (accP B (bs ++ r.put .to))).set k (boxP R 24 r.cs)) := by
  have hkn := (List.getElem?_eq_some_iff.1 hk).1
  have hln := (List.getElem?_eq_some_iff.1 hl).1
  have hO1 := h.addBox 47 #[pnumF B, ptxtF B]
  obtain ⟨H, hH⟩ : ∃ H, w.heap.size = H := ⟨_, rfl⟩
  rw [hH] at hO1
  obtain ⟨c1, _⟩ := own_cellB hO1 Ps.length (lastQ _ _) 1 rfl
  have hk1 : (Ps ++ [boxP H 47 #[pnumF B, ptxtF B]])[k]? = some (boxP R 24 r.cs) := by rw [List.getElem?_append_left hkn]; exact hk
  have hl1 : (Ps ++ [boxP H 47 #[pnumF B, ptxtF B]])[l]? = some (accP B bs) := by rw [List.getElem?_append_left hln]; exact hl
  obtain ⟨c2, _⟩ := own_cellB hO1 k hk1 6 (u := .string r.t) rfl
  have HC := Lib.hid (putTxt l B r.t 200 hf.t bs hb w0 _ _ (hO1.quiet (grown_drew (World.grownBy.refl _ none))) hl1)
  have HS := Lib.hid (fun wx (hO : Grommet.Own w0 wx ((Ps ++ [boxP H 47 #[pnumF B, ptxtF B]]).set l (accP B (bs ++ num r.t.size ++ bytesOf r.t)))) => (show wx.cell? ⟨R, 6, none⟩ = some (.string r.t) ∧ wx.frozen? ⟨R, 6, none⟩ = false ∧ Grommet.Own w0 (wx.setCell ⟨R, 6, none⟩ (.string r.t)) ((Ps.set l (accP B (bs ++ r.put .to))).set k (boxP R 24 r.cs)) by
    have hk2 : ((Ps ++ [boxP H 47 #[pnumF B, ptxtF B]]).set l (accP B (bs ++ num r.t.size ++ bytesOf r.t)))[k]? = some (boxP R 24 r.cs) := by rw [List.getElem?_set_ne hkl]; exact hk1
    obtain ⟨a1, a2⟩ := own_cellB hO k hk2 6 (u := .string r.t) rfl
    have a3 := own_put hO k hk2 6 (.string r.t)
    rw [List.set_append_left _ _ hln, List.set_append_left _ _ (by rw [List.length_set]; exact hkn)] at a3
    unfold Rq.put
    rw [← List.append_assoc]
    exact ⟨a1, a2, a3.less⟩))
  unfold pnumF ptxtF at *
  clear h hk hl hO1 hk1 hl1 hkn hln _hr hf
  go_enter Try.func53, Try.ntmps53
  go_upto_region 1 with fail
  go_region_law (go_simp; refine HC.out.mono ?_; rintro e w3 ⟨rfl, hO3⟩; obtain ⟨d1, d2, d3⟩ := HS.out w3 hO3; replace d3 := Lib.hid d3; clear HS hO3)
  all_goals go_wp2
  all_goals go_end0
  all_goals exact ⟨⟨_, rfl⟩, d3.out⟩

theorem PutC (f : Fd) (k l R B : Nat) (r : Rq) (hr : r.Ok) (hf : r.Few) (bs : List UInt8) (hb : bs.length ≤ 1000000) (w0 w : World) (Ps : List Pr) (h : Grommet.Own w0 w Ps) (hk : Ps[k]? = some (boxP R 24 r.cs)) (hl : Ps[l]? = some (accP B bs)) (hkl : l ≠ k) :
    Calls Try.prog f.fn #[.pointer (some ⟨R, 0, none⟩), .agg #[pnumF B, ptxtF B]] w fun e w' => (∃ v, e = .returned v) ∧ Grommet.Own w0 w' ((Ps.set l (accP B (bs ++ r.put f))).set k (boxP R 24 r.cs)) := by
  cases f
  · exact put_path k l R B r hr hf bs hb w0 w Ps h hk hl hkl
  · exact put_flags k l R B r hr hf bs hb w0 w Ps h hk hl hkl
  · exact put_fd k l R B r hr hf bs hb w0 w Ps h hk hl hkl
  · exact put_size k l R B r hr hf bs hb w0 w Ps h hk hl hkl
  · exact put_data k l R B r hr hf bs hb w0 w Ps h hk hl hkl
  · exact put_at k l R B r hr hf bs hb w0 w Ps h hk hl hkl
  · exact put_to k l R B r hr hf bs hb w0 w Ps h hk hl hkl
end Go.Proofs.Ytlphmpimpeekcaa
