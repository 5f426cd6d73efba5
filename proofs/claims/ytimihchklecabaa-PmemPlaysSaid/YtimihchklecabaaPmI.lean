/- Package pmem: the power goes. -/
import Derived.Test.YtimihchklecabaaPmH
import Derived.Test.YtimihchklecabaaBase5
namespace Go.Proofs.Ytimihchklecabaa
open Go.RowKit Go.Grommet Go.Shelf
attribute [local go_sem] Oper.semAt_some

def u8v (p : Nat) : Value := .int .u8 (p : Int)
/-- The picks that are left, in a variable of the call's own. -/
structure PicksR (W : World) (B g : Nat) (ps : List Nat) (ad : Option Addr) (cp : Nat) : Prop where
  box : W.heap[B]? = some (.cells #[.slice ad ps.length cp] 33 (0, 0))
  at_ : At W ad (ps.map u8v)
  nil : ad = none → ps = []
  cap : ps.length ≤ cp
  other : ps ≠ [] → ∀ a, ad = some a → a.block ≠ g ∧ a.block ≠ B ∧ a.block < W.heap.size
  small : ∀ p ∈ ps, p < 256
  few : ps.length ≤ 1000000

structure CrashL (w : World) (d g n b : Nat) (ds : List Deferred) (s : List PW × List Nat) (W : World) : Prop where
  dev : DevIs W d g s.1
  len : s.1.length = n
  picks : ∃ ad cp, PicksR W w.heap.size g s.2 ad cp ∧ (s.2 ≠ [] → ∀ a, ad = some a → a.block < w.heap.size)
  grown : w.grownBy W (some g)
  size : b + 2 ≤ W.heap.size
  marks : Marks w.heap.size W (b + 2) ds
theorem PicksR.keep {W W' : World} {B g : Nat} {ps : List Nat} {ad : Option Addr} {cp : Nat} {row : Option Nat} (h : PicksR W B g ps ad cp) (hg : W.grownBy W' row) (hB : some B ≠ row) (hr : ps ≠ [] → ∀ a, ad = some a → some a.block ≠ row) : PicksR W' B g ps ad cp :=
  ⟨(hg.block _ (Array.getElem?_eq_some_iff.1 h.box).1 hB).trans h.box, h.at_.grown hg (fun a ha hne => hr (fun e => hne (by rw [e]; rfl)) a ha), h.nil, h.cap, fun hne a ha => ⟨(h.other hne a ha).1, (h.other hne a ha).2.1, Nat.lt_of_lt_of_le (h.other hne a ha).2.2 hg.size⟩, h.small, h.few⟩
theorem CrashL.own {w : World} {d g n b : Nat} {ds : List Deferred} (hd : d < w.heap.size) (hg : g < w.heap.size) (hb : w.heap.size < b) : OwnFrom (b + 2) (CrashL w d g n b ds) := by
  intro s W W' row hs hgr hr
  refine ⟨DevIs.ownFrom (B := b + 2) (by omega) (by omega) s.1 W W' row hs.dev hgr hr, hs.len, ?_, grown_new hs.grown hgr (fun j e => by have := (hr j e).1; omega), Nat.le_trans hs.size hgr.size, Marks.ownFrom (U := b + 2) s W W' row hs.marks hgr hr⟩
  obtain ⟨ad, cp, h1, h2⟩ := hs.picks
  exact ⟨ad, cp, h1.keep hgr (by intro e; have := (hr _ e.symm).1; omega) (fun hne a ha e => by have := (hr _ e.symm).1; have := h2 hne a ha; omega), h2⟩
theorem CrashL.round {w W W' : World} {d g n b : Nat} {ds : List Deferred} {s s' : List PW × List Nat} (h : CrashL w d g n b ds s W) (hD' : DevIs W' d g s'.1) (hl' : s'.1.length = s.1.length)
    (hp : ∃ ad cp, PicksR W' w.heap.size g s'.2 ad cp ∧ (s'.2 ≠ [] → ∀ a, ad = some a → a.block < w.heap.size)) (hk : KeepsOthers W W') (hks : Kept (b + 1) b d W W') (hg : w.grownBy W' (some g)) :
    KeepsOthers W W' ∧ Kept (b + 1) b d W W' ∧ CrashL w d g n b ds s' W' :=
  ⟨hk, hks, hD', hl'.trans h.len, hp, hg, Nat.le_trans h.size hk.size, h.marks.keeps hk⟩

theorem loseAt_eq {s : List PW} {qs : List Nat} {k : Nat} {c : PW} (hc : s[k]? = some c) : loseAt (s, qs) k = if c.loose = true then (s.set k (c.lose (qs.headD 0)), qs.tail) else (s, qs) := by
  have : s.getD k PW.nought = c := by rw [List.getD_eq_getElem?_getD, hc]; rfl
  unfold loseAt
  dsimp only
  rw [this]

set_option maxHeartbeats 4000000 in
theorem Crash_ok (w : World) (d g : Nat) (ws : List PW) (h : DevIs w d g ws) (N : Nat) (hN : ws.length = 8 * N) (ad : Option Addr) (cp : Nat) (ps : List Nat) (hat : At w ad (ps.map u8v)) (hnil : ad = none → ps = []) (hcap : ps.length ≤ cp) (hoth : ps ≠ [] → ∀ a, ad = some a → a.block ≠ g ∧ a.block < w.heap.size) (hsm : ∀ p ∈ ps, p < 256) (hpl : ps.length ≤ 1000000) :
    Calls Try.prog 24 #[ptr d, .slice ad ps.length cp] w fun e w' => e = .returned (.int .i64 0) ∧ DevIs w' d g (crash ws ps) ∧ w.grownBy w' (some g) := by
  have hf := h.fits
  have hN8 : ws.length / 8 = N := by omega
  have hrow := (Array.getElem?_eq_some_iff.1 h.row).1
  have hdd := (Array.getElem?_eq_some_iff.1 h.dev).1
  have hg0 := World.grownBy_alloc w (.cells #[.slice ad ps.length cp] 33) none
  have h0 := h.grown hg0
  have hbox := heap_alloc_new w (.cells #[.slice ad ps.length cp] 33)
  have HW := Lib.hid (lines_any _ d g ws h0)
  have hP0 : PicksR (w.alloc (.cells #[.slice ad ps.length cp] 33)) w.heap.size g ps ad cp :=
    ⟨hbox, hat.grown hg0 (fun a ha _ => by simp), hnil, hcap, fun hne a ha => ⟨(hoth hne a ha).1, by have := (hoth hne a ha).2; omega, Nat.lt_of_lt_of_le (hoth hne a ha).2 hg0.size⟩, hsm, hpl⟩
  have hAd : ps ≠ [] → ∀ a, ad = some a → a.block < w.heap.size := fun hne a ha => (hoth hne a ha).2
  rw [hN8] at HW
  unfold ptr at HW ⊢
  refine (callsIn_wide (n := 9)).1 ?_
  refine callsIn_of_wp_marks Try.func24 rfl trivial ?_ rfl
  simp only [Try.ntmps24, List.size_toArray, List.length_cons, List.length_nil, Nat.reduceAdd, Nat.reduceSub, Array.replicate_succ, Array.replicate_zero, List.push_toArray, List.append_toArray, List.nil_append, List.cons_append]
  gi_wp2_with fail
  generalize w.alloc (.cells #[.slice ad ps.length cp] 33) = wa at hg0 h0 hbox HW hP0 ⊢
  have hsa : w.heap.size < wa.heap.size := (Array.getElem?_eq_some_iff.1 hbox).1
  refine ⟨trivial, (callsIn_wide.2 HW.out).mono ?_⟩
  rintro e w1 ⟨rfl, rfl⟩
  gi_wp2_with fail
  refine wpIn_loop (fun a' w' => ∃ (j : Nat) (u5 u13 u14 u15 u16 u17 u45 : Value) (ds : List Deferred), (j ≤ N ∧ DevIs w' d g (loseFrom 0 (8 * j) (ws, ps)).1 ∧ (∃ ad cp, PicksR w' w.heap.size g (loseFrom 0 (8 * j) (ws, ps)).2 ad cp ∧ ((loseFrom 0 (8 * j) (ws, ps)).2 ≠ [] → ∀ a, ad = some a → a.block < w.heap.size)) ∧ w.grownBy w' (some g) ∧ Marks w.heap.size w' w'.heap.size ds) ∧ a' = { tmps := #[.pointer (some ⟨d, 0, none⟩), .slice ad ps.length cp, undef, .pointer (some ⟨w.heap.size, 0, none⟩), .int .i64 0, u5, undef, undef, .pointer (some ⟨d, 0, none⟩), .bool false, .pointer (some ⟨d, 0, none⟩), .int .i64 (N : Int), .int .i64 (j : Int), u13, u14, u15, u16, u17, undef, undef, undef, undef, undef, undef, undef, undef, undef, undef, undef, undef, undef, undef, undef, undef, undef, undef, undef, undef, undef, undef, undef, undef, undef, undef, undef, u45], defers := ds })
    (fun a' _ => N - (intOf (a'.tmps.getD 12 undef)).toNat) ?start ?round
  case start => exact ⟨0, _, _, _, _, _, _, _, [], ⟨Nat.zero_le _, h0, ⟨ad, cp, hP0, hAd⟩, grown_wide hg0, trivial⟩, rfl⟩
  case round =>
    rintro _ wr ⟨j, u5, u13, u14, u15, u16, u17, u45, ds, ⟨hj, hD, hP, hG, hM⟩, rfl⟩
    have j0 : (0 : Int) ≤ (j : Int) := by omega
    have hBs : w.heap.size < wr.heap.size := by obtain ⟨_, _, hp, _⟩ := hP; exact (Array.getElem?_eq_some_iff.1 hp.box).1
    by_cases hlt : j < N
    · have hlt' : (j : Int) < (N : Int) := by omega
      have wj : IntKind.i64.wrap ((j : Int) + 1) = (j : Int) + 1 := IntWalk.i64_in _ ⟨by omega, by omega⟩
      gi_wp2_with fail
      refine ⟨trivial, (callsIn_wide.2 (line_any wr d j)).mono ?_⟩
      rintro e w2 ⟨rfl, hw2⟩
      obtain ⟨b1, b2, hg2, hs2, hk2⟩ := boxes_new wr d j w2 hw2
      have hD2 := hD.grown hg2
      have hM2 := (hM.keeps hk2).up (by omega : wr.heap.size ≤ w2.heap.size)
      have hP2 : ∃ ad cp, PicksR w2 w.heap.size g (loseFrom 0 (8 * j) (ws, ps)).2 ad cp ∧ ((loseFrom 0 (8 * j) (ws, ps)).2 ≠ [] → ∀ a, ad = some a → a.block < w.heap.size) := by
        obtain ⟨ad, cp, hp, ha⟩ := hP
        exact ⟨ad, cp, hp.keep hg2 (by simp) (fun _ _ _ => by simp), ha⟩
      have hlen : (loseFrom 0 (8 * j) (ws, ps)).1.length = ws.length := loseFrom_len _ _ _
      clear hw2 hP
      gi_wp2_with fail
      refine range_line (by decide) (bi := wr.heap.size + 1) (bd := wr.heap.size) (d := d) (g := g) (i := j) (n := ws.length) rfl rfl b1 b2 (by have := hD2.dev; rwa [hlen] at this) (by omega) hf
        (fun s x => loseAt s (8 * j + x)) (loseFrom 0 (8 * j) (ws, ps)) (CrashL w d g ws.length wr.heap.size ds) (by rw [hs2]; exact CrashL.own hdd hrow hBs) ⟨hD2, hlen, hP2, grown_new hG hg2 (fun _ e => by cases e), by omega, by rw [← hs2]; exact hM2⟩
        (fun x => { tmps := #[ptr d, .slice ad ps.length cp, undef, ptr w.heap.size, .int .i64 0, .int .i64 (j : Int), wordAt g (8 * j + x), undef, ptr d, .bool false, ptr d, .int .i64 (N : Int), .int .i64 (j : Int), .bool true, .int .i64 (j : Int), ptr d, .int .i64 (j : Int), .func (.func 43) #[] #[ptr (wr.heap.size + 1), ptr wr.heap.size], wordAt g (8 * j + x), undef, undef, undef, undef, undef, undef, undef, undef, undef, undef, undef, undef, undef, undef, undef, undef, undef, undef, undef, undef, undef, undef, undef, undef, undef, undef, u45], defers := [] }) ?assign ?body ?done
      case assign =>
        intro l x W K hK
        gi_wp2
        exact hK
      case body =>
        rintro l ⟨s, qs⟩ x W hx hL
        have hD := hL.dev
        have hl : s.length = ws.length := hL.len
        obtain ⟨c, hc⟩ : ∃ c, s[8 * j + x]? = some c := ⟨_, List.getElem?_eq_getElem (by omega)⟩
        have hlt := (List.getElem?_eq_some_iff.1 hc).1
        obtain ⟨f0, f1, f2, f3, f4, f5⟩ := hD.get hc
        rw [loseAt_eq hc]
        unfold wordAt ptr
        generalize hk : 8 * j + x = k at hc hlt f0 f1 f2 f3 f4 f5 ⊢
        cases hb : c.loose with
        | false =>
          rw [hb] at f2
          have hself := Lib.hid (show KeepsOthers W W ∧ Kept (wr.heap.size + 1) wr.heap.size d W W ∧ CrashL w d g ws.length wr.heap.size ds (s, qs) W from ⟨KeepsOthers.refl _, ⟨rfl, rfl, rfl⟩, hL⟩)
          rw [if_neg (by simp)]
          clear hL hc hD hN
          gi_wp2
          exact hself.out
        | true =>
          rw [hb] at f2
          rw [if_pos rfl]
          obtain ⟨adq, cq, hpk, hpb⟩ := hL.picks
          have hpk' : PicksR W w.heap.size g qs adq cq := hpk
          clear hpk
          have cB : W.cell? ⟨w.heap.size, 0, none⟩ = some (.slice adq qs.length cq) := by unfold World.cell?; rw [hpk'.box]; rfl
          have zB : W.frozen? ⟨w.heap.size, 0, none⟩ = false := by simp [World.frozen?, hpk'.box]
          cases qs with
          | nil =>
            have hxD := hD
            have hxP : 0 < 256 := by decide
            have hxPk := hpk'
            have hxPb := hpb
            have hxK := KeepsOthers.refl W
            have hxKs : Kept (wr.heap.size + 1) wr.heap.size d W W := ⟨rfl, rfl, rfl⟩
            have hxG := hL.grown
            show Code.wpIn _ _ _ _ (fun e _ W' => e = .normal ∧ KeepsOthers W W' ∧ Kept (wr.heap.size + 1) wr.heap.size d W W' ∧ CrashL w d g ws.length wr.heap.size ds (s.set k (c.lose 0), []) W') _ _
            have hsmc := hxD.of hc
            have HLf := Lib.hid (left_any W d g s hxD k c hc 0 hxP)
            have HSt := Lib.hid (settle_any W d g s hxD k c hc (c.left 0) (PW.left_small hsmc 0))
            have HP := Lib.hid (fun (W' : World) (hD' : DevIs W' d g (s.set k (settled (c.left 0) c.seen))) => show DevIs (W'.setCell ⟨g, k * 6 + 1, none⟩ (.int .u64 ((c.left 0 : Nat) : Int))) d g (s.set k (c.lose 0)) from by
              have := hD'.put (k := k) (c := settled (c.left 0) c.seen) (c' := c.lose 0) (by simp [hlt]) 1 (by decide) (.int .u64 ((c.left 0 : Nat) : Int)) rfl (PW.lose_small hsmc 0)
              rwa [List.set_set] at this)
            have HF := Lib.hid (fun (W' : World) (hD' : DevIs W' d g (s.set k (settled (c.left 0) c.seen))) => show W'.cell? ⟨g, k * 6, none⟩ = some (.int .u64 ((c.left 0 : Nat) : Int)) ∧ W'.frozen? ⟨g, k * 6 + 1, none⟩ = false ∧ W'.cell? ⟨g, k * 6 + 1, none⟩ = some (.int .u64 (c.seen : Int)) from ⟨(hD'.get (k := k) (c := settled (c.left 0) c.seen) (by simp [hlt])).1, hD'.free _, (hD'.get (k := k) (c := settled (c.left 0) c.seen) (by simp [hlt])).2.1⟩)
            have HRo := Lib.hid (fun (W' : World) (hg' : W.grownBy W' (some g)) (hD' : DevIs W' d g (s.set k (c.lose 0))) => show KeepsOthers W W' ∧ Kept (wr.heap.size + 1) wr.heap.size d W W' ∧ CrashL w d g ws.length wr.heap.size ds (s.set k (c.lose 0), []) W' from by
              have hsz := hL.size
              have hkk : KeepsOthers W W' := KeepsOthers.of_grownBy hg' (fun j o e ho => by cases e; rw [hxD.row] at ho; cases ho; rfl)
              have hsx := hxK.size
              exact hL.round hD' (by simp) ⟨_, _, hxPk.keep hg' (by simp; omega) (fun hne a ha e => (hxPk.other hne a ha).1 (by cases e; rfl)), hxPb⟩ (hxK.trans hkk) (hxKs.trans (Kept.of hg' (by omega) (by omega) (Array.getElem?_eq_some_iff.1 hxD.dev).1 (by omega) (by omega) hxD.ne)) (grown_trans hxG hg'))
            unfold wordAt at HLf HSt
            generalize c.left 0 = V at HLf HSt HP HF
            generalize s.set k (settled V c.seen) = s1 at HSt HP HF
            generalize s.set k (c.lose 0) = s' at HP HRo ⊢
            clear hL hc hN hsmc hxD hD
            gi_wp2_with fail
            refine ⟨trivial, (CallsIn.inRound l (callsIn_wide.2 HLf.out)).mono ?_⟩
            rintro e w5 ⟨rfl, rfl⟩
            gi_wp2_with fail
            refine ⟨trivial, (CallsIn.inRound l (callsIn_wide.2 HSt.out)).mono ?_⟩
            rintro e W' ⟨⟨v, rfl⟩, hD', hg'⟩
            obtain ⟨q1, q2, q3⟩ := HF.out W' hD'
            have hfin := Lib.hid (HRo.out _ (grown_trans hg' (grown_setCell W' ⟨g, k * 6 + 1, none⟩ _)) (HP.out W' hD'))
            clear HRo HSt HLf HP HF hD' hg'
            gi_wp2
            exact hfin.out
          | cons p qs =>
            have hp := hpk'.small p (by simp)
            obtain ⟨qb, qo, rfl, cp0⟩ := hpk'.at_ 0 (u8v p) (by simp)
            have cp1 : W.cell? ⟨qb, qo, none⟩ = some (.int .u8 (p : Int)) := cp0
            have hcq := hpk'.cap
            rw [List.length_cons] at cB hcq
            obtain ⟨ad', s1, s2, s3, s4⟩ := slice_from (P := Try.prog) 33 5 Try.underlying33 Try.sizeOf5 (some ⟨qb, qo, none⟩) (qs.length + 1) cq 1 (by omega)
            rw [Nat.add_sub_cancel] at s1
            have hql := hpk'.few
            rw [List.length_cons] at hql
            have hmix : Try.prog.follows .mixedOrders = true := by kernel_rfl
            obtain ⟨M, hM1⟩ : ∃ M, qs.length = M := ⟨_, rfl⟩
            rw [hM1] at cB s1 hcq hql
            obtain ⟨L, hL1⟩ : ∃ L, M + 1 = L := ⟨_, rfl⟩
            rw [hL1] at cB s1 hcq hql
            have hq1 : (0 : Int) < (L : Int) := by omega
            have hq2 : (1 : Int) ≤ (L : Int) := by omega
            have S1 : ∀ w, (Instr.slice 33 (.slice (some ⟨qb, qo, none⟩) L cq) (some (.int .i64 1)) none none).run Try.prog w = .ok (.slice ad' M (cq - 1)) w := fun w => s1 w
            obtain ⟨Wx, hWx⟩ : ∃ Wx, (W.setCell ⟨w.heap.size, 0, none⟩ (.slice ad' M (cq - 1))).drew = Wx := ⟨_, rfl⟩
            have hgx : W.grownBy Wx (some w.heap.size) := by rw [← hWx]; exact grown_drew (grown_setCell W ⟨w.heap.size, 0, none⟩ _)
            have hBW : w.heap.size < W.heap.size := (Array.getElem?_eq_some_iff.1 hpk'.box).1
            have hxD : DevIs Wx d g s := ⟨(hgx.block _ (Array.getElem?_eq_some_iff.1 hD.dev).1 (by simp; omega)).trans hD.dev, (hgx.block _ (Array.getElem?_eq_some_iff.1 hD.row).1 (by simp; omega)).trans hD.row, hD.ne, hD.fits, hD.small⟩
            have hxP : p < 256 := hp
            have hxb : ∀ a, ad' = some a → a.block = qb := fun a ha => by obtain ⟨y, hy, e⟩ := s3 a ha; cases hy; exact e
            have hqo := hpk'.other (by simp) ⟨qb, qo, none⟩ rfl
            have hxPk : PicksR Wx w.heap.size g qs ad' (cq - 1) := by
              refine ⟨?_, ?_, fun e => (by have := s4 e; cases this), by omega, fun _ a ha => ?_, fun x hx => hpk'.small x (by simp [hx]), by omega⟩
              · rw [← hWx, hM1]
                show (W.setCell ⟨w.heap.size, 0, none⟩ (.slice ad' M (cq - 1))).heap[w.heap.size]? = _
                have := heap_setCell_at (o := 0) hpk'.box (.slice ad' M (cq - 1))
                simpa using this
              · have := s2 W _ hpk'.at_ (by first | (simp; done) | (simp; omega)) (by omega)
                exact At.grown this hgx (fun a ha _ => by rw [hxb a ha]; simp; exact hqo.2.1)
              · rw [hxb a ha]; exact ⟨hqo.1, hqo.2.1, Nat.lt_of_lt_of_le hqo.2.2 hgx.size⟩
            have hxPb : qs ≠ [] → ∀ a, ad' = some a → a.block < w.heap.size := fun _ a ha => by rw [hxb a ha]; exact hpb (by simp) _ rfl
            have hxK : KeepsOthers W Wx := KeepsOthers.of_grownBy hgx (fun j o e ho => by cases e; rw [hpk'.box] at ho; cases ho; rfl)
            have hszL := hL.size
            have hxKs : Kept (wr.heap.size + 1) wr.heap.size d W Wx := Kept.of hgx (by omega) (by omega) (Array.getElem?_eq_some_iff.1 hD.dev).1 (by omega) (by omega) (by omega)
            have hxG : w.grownBy Wx (some g) := grown_new hL.grown hgx (fun j e => by cases e; exact Nat.le_refl _)
            show Code.wpIn _ _ _ _ (fun e _ W' => e = .normal ∧ KeepsOthers W W' ∧ Kept (wr.heap.size + 1) wr.heap.size d W W' ∧ CrashL w d g ws.length wr.heap.size ds (s.set k (c.lose p), qs) W') _ _
            have hsmc := hxD.of hc
            have HLf := Lib.hid (left_any Wx d g s hxD k c hc p hxP)
            have HSt := Lib.hid (settle_any Wx d g s hxD k c hc (c.left p) (PW.left_small hsmc p))
            have HP := Lib.hid (fun (W' : World) (hD' : DevIs W' d g (s.set k (settled (c.left p) c.seen))) => show DevIs (W'.setCell ⟨g, k * 6 + 1, none⟩ (.int .u64 ((c.left p : Nat) : Int))) d g (s.set k (c.lose p)) from by
              have := hD'.put (k := k) (c := settled (c.left p) c.seen) (c' := c.lose p) (by simp [hlt]) 1 (by decide) (.int .u64 ((c.left p : Nat) : Int)) rfl (PW.lose_small hsmc p)
              rwa [List.set_set] at this)
            have HF := Lib.hid (fun (W' : World) (hD' : DevIs W' d g (s.set k (settled (c.left p) c.seen))) => show W'.cell? ⟨g, k * 6, none⟩ = some (.int .u64 ((c.left p : Nat) : Int)) ∧ W'.frozen? ⟨g, k * 6 + 1, none⟩ = false ∧ W'.cell? ⟨g, k * 6 + 1, none⟩ = some (.int .u64 (c.seen : Int)) from ⟨(hD'.get (k := k) (c := settled (c.left p) c.seen) (by simp [hlt])).1, hD'.free _, (hD'.get (k := k) (c := settled (c.left p) c.seen) (by simp [hlt])).2.1⟩)
            have HRo := Lib.hid (fun (W' : World) (hg' : Wx.grownBy W' (some g)) (hD' : DevIs W' d g (s.set k (c.lose p))) => show KeepsOthers W W' ∧ Kept (wr.heap.size + 1) wr.heap.size d W W' ∧ CrashL w d g ws.length wr.heap.size ds (s.set k (c.lose p), qs) W' from by
              have hsz := hL.size
              have hkk : KeepsOthers Wx W' := KeepsOthers.of_grownBy hg' (fun j o e ho => by cases e; rw [hxD.row] at ho; cases ho; rfl)
              have hsx := hxK.size
              exact hL.round hD' (by simp) ⟨_, _, hxPk.keep hg' (by simp; omega) (fun hne a ha e => (hxPk.other hne a ha).1 (by cases e; rfl)), hxPb⟩ (hxK.trans hkk) (hxKs.trans (Kept.of hg' (by omega) (by omega) (Array.getElem?_eq_some_iff.1 hxD.dev).1 (by omega) (by omega) hxD.ne)) (grown_trans hxG hg'))
            unfold wordAt at HLf HSt
            generalize c.left p = V at HLf HSt HP HF
            generalize s.set k (settled V c.seen) = s1 at HSt HP HF
            generalize s.set k (c.lose p) = s' at HP HRo ⊢
            clear hL hc hN hsmc hxD hD
            clear hxPk hxPb hxK hxKs hxG hgx hqo hxb s2 s3 s4 hBW hszL hpk' cp0
            gi_wp2_with fail
            gi_region_with_o (fail)
            all_goals (try rw [hWx])
            all_goals clear hWx cB zB cp1 S1
            all_goals gi_wp2_with fail
            all_goals (refine ⟨trivial, (CallsIn.inRound l (callsIn_wide.2 HLf.out)).mono ?_⟩; rintro e w5 ⟨rfl, rfl⟩)
            all_goals gi_wp2_with fail
            all_goals (refine ⟨trivial, (CallsIn.inRound l (callsIn_wide.2 HSt.out)).mono ?_⟩; rintro e W' ⟨⟨v, rfl⟩, hD', hg'⟩)
            all_goals (obtain ⟨q1, q2, q3⟩ := HF.out W' hD')
            all_goals (have hfin := Lib.hid (HRo.out _ (grown_trans hg' (grown_setCell W' ⟨g, k * 6 + 1, none⟩ _)) (HP.out W' hD')))
            all_goals (clear HRo HSt HLf HP HF hD' hg')
            all_goals gi_wp2
            all_goals exact hfin.out
      case done =>
        rintro D W hD3 hL hK
        have hline := Lib.hid (loseFrom_line j (ws, ps))
        have hN2 := Lib.hid (show DevIs W d g (loseFrom 0 (8 * (j + 1)) (ws, ps)).1 ∧ (∃ ad cp, PicksR W w.heap.size g (loseFrom 0 (8 * (j + 1)) (ws, ps)).2 ad cp ∧ ((loseFrom 0 (8 * (j + 1)) (ws, ps)).2 ≠ [] → ∀ a, ad = some a → a.block < w.heap.size)) ∧ w.grownBy W (some g) ∧ Marks w.heap.size W W.heap.size ({ target := .collected D, args := #[] } :: ds) from
          ⟨by rw [← hline.out]; exact hL.dev, by rw [← hline.out]; exact hL.picks, hL.grown, D, rfl, by omega, (Array.getElem?_eq_some_iff.1 hK).1, hK, hL.marks.up (by omega)⟩)
        gi_wp2
        refine ⟨⟨j + 1, _, _, _, _, _, _, _, _, ⟨by omega, hN2.out⟩, rfl⟩, ?_⟩
        simp [intOf]; omega
    · obtain rfl : j = N := by omega
      have hlt' : ¬ (j : Int) < (j : Int) := by omega
      have hall := loseFrom_all ws ps (8 * j) hN.symm
      gi_wp2
      refine leaves_marks ds _ wr hM ?_
      intro w' hw'
      refine ⟨_, results_tmp rfl _ _ _, rfl, ?_, hw'.grown (Nat.le_refl _) hG⟩
      rw [← hall]
      exact ⟨hw'.cells _ _ _ _ hD.dev, hw'.cells _ _ _ _ hD.row, hD.ne, hD.fits, hD.small⟩
end Go.Proofs.Ytimihchklecabaa
