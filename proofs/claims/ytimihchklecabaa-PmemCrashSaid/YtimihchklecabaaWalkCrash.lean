/- PmemCrash, walked. -/
import Derived.Test.YtimihchklecabaaWalkFenced
import Derived.Test.YtimihchklecabaaCrMath
namespace Go.Proofs.Ytimihchklecabaa.pmemCrash
open Go.RowKit Go.Grommet Go.Shelf Go.Proofs.Ytimihchklecabaa.pmemEvicts

def stR (ws : List PW) (x : Put3) : List PW := ws.modify (x.pl.toNat % 16) (·.store x.vv.toNat)
def storesR (L : List Put3) : List PW := L.foldl stR zero16
def vR (vs : List Nat) (x : Put3) : List Nat := vs.set (x.pl.toNat % 16) x.vv.toNat
def valsR (L : List Put3) : List Nat := L.foldl vR (List.replicate 16 0)
theorem storesR_snoc (L : List Put3) (x : Put3) : storesR (L ++ [x]) = stR (storesR L) x := by unfold storesR; rw [List.foldl_append]; rfl
theorem valsR_snoc (L : List Put3) (x : Put3) : valsR (L ++ [x]) = vR (valsR L) x := by unfold valsR; rw [List.foldl_append]; rfl
theorem fresh_zero : Freshs (List.replicate 16 0) zero16 := ⟨by rw [zero16_len, List.length_replicate], fun k c v hc hv => by
  rw [List.eq_of_mem_replicate (List.mem_of_getElem? hc), List.eq_of_mem_replicate (List.mem_of_getElem? hv)]; exact ⟨rfl, .inr ⟨rfl, rfl⟩⟩⟩
theorem fresh_all : ∀ (L : List Put3) (vs : List Nat) (ws : List PW), Freshs vs ws → Freshs (L.foldl vR vs) (L.foldl stR ws)
  | [], _, _, h => h
  | _ :: L, _, _, h => fresh_all L _ _ (h.store _ _)
theorem vals_len : ∀ (L : List Put3) (vs : List Nat), (L.foldl vR vs).length = vs.length
  | [], _ => rfl
  | x :: L, vs => by show (L.foldl vR (vR vs x)).length = _; rw [vals_len L]; unfold vR; rw [List.length_set]
theorem stores_len : ∀ (L : List Put3) (ws : List PW), (L.foldl stR ws).length = ws.length
  | [], _ => rfl
  | x :: L, ws => by show (L.foldl stR (stR ws x)).length = _; rw [stores_len L]; unfold stR; rw [List.length_modify]

/-- What a word may hold. -/
def In (vs : List Nat) (T : List Put3) (k x : Nat) : Prop := vs[k]? = some x ∨ ∃ p ∈ T, p.fl = false ∧ p.pl.toNat % 16 = k ∧ p.vv.toNat = x
def fits (k s : Nat) (p : Put3) : Bool := !p.fl && (p.pl.toNat % 16 == k) && (p.vv.toNat == s)
def fineB (b : Bool) (k s : Nat) (T : List Put3) : Bool := b || T.any (fits k s)
theorem fineB_snoc (b : Bool) (k s : Nat) (T : List Put3) (p : Put3) : fineB b k s (T ++ [p]) = (fineB b k s T || fits k s p) := by
  unfold fineB; rw [List.any_append]; simp [Bool.or_assoc]
theorem fine_of {vs : List Nat} {T : List Put3} {k s wa : Nat} (h : In vs T k s) (hw : vs[k]? = some wa) : fineB (s == wa) k s T = true := by
  unfold fineB
  rcases h with h | ⟨p, hp, h1, h2, h3⟩
  · rw [hw] at h; cases h; simp
  · have : T.any (fits k s) = true := List.any_eq_true.2 ⟨p, hp, by unfold fits; simp [h1, h2, h3]⟩
    rw [this]; simp
theorem put_held {vs : List Nat} {T : List Put3} {ws : List PW} {x : Put3} (hx : x ∈ T) (h : Helds (In vs T) ws) : Helds (In vs T) (putR ws x) := by
  unfold putR
  split
  · exact h.turn (fun _ _ _ _ hh => hh.flush)
  · rename_i hf
    exact h.modify (fun c hh => hh.store (.inr ⟨x, hx, by simpa using hf, rfl, rfl⟩))

set_option maxRecDepth 100000 in
set_option maxHeartbeats 8000000 in
theorem walk_near (fd : Option Addr) (fn fc : Nat) (F : List Put3) (td : Option Addr) (tn tc : Nat) (T : List Put3) (ed : Option Addr) (ec : Nat) (es : List Nat) (pd : Option Addr) (pc : Nat) (ps : List Nat) (w : World)
    (hF : PutsIn w fd fn F) (hT : PutsIn w td tn T) (hE : At w ed (es.map u8v)) (hEs : ∀ p ∈ es, p < 256) (hP : At w pd (ps.map u8v)) (hPs : ∀ p ∈ ps, p < 256) (hPn : pd = none → ps = []) (hPc : ps.length ≤ pc)
    (h1 : fn ≤ 60) (h2 : tn ≤ 60) (h3 : es.length ≤ 20) (h4 : ps.length ≤ 100) :
    Calls Try.prog 4 #[.slice fd fn fc, .slice td tn tc, .slice ed es.length ec, .slice pd ps.length pc] w (WorksIs w) := by
  have g1 : ¬ (60 : Int) < (fn : Int) := by omega
  have g2 : ¬ (60 : Int) < (tn : Int) := by omega
  obtain ⟨el, hel⟩ : ∃ el, es.length = el := ⟨_, rfl⟩
  obtain ⟨pl, hpl⟩ : ∃ pl, ps.length = pl := ⟨_, rfl⟩
  have g3 : ¬ (20 : Int) < (el : Int) := by omega
  have g4 : ¬ (100 : Int) < (pl : Int) := by omega
  have HFi := Lib.hid hF
  have HTi := Lib.hid hT
  have HEi := Lib.hid (⟨hE, hEs, hel⟩ : At w ed (es.map u8v) ∧ (∀ p ∈ es, p < 256) ∧ es.length = el)
  have HCr := Lib.hid (fun d ws wx Ps (hO : Grommet.Own w wx Ps) (hk : Ps[0]? = some (devP d ws)) (hl : ws.length = 8 * 2) => CrashOldH 0 d ws w wx Ps hO hk 2 hl pd pc ps (At.grown hP hO.grown (fun a _ _ => by simp)) hPn hPc (fun hne a ha => old_block hP (by simpa using hne) a ha) hPs (by omega))
  rw [hel, hpl]
  rw [hpl] at HCr
  have Hps := Lib.hid hpl
  have HN := Lib.hid (NewH 16 w w [] (Grommet.Own.nil w) (by decide) (by decide) (by decide))
  unfold ptr at HN HCr
  clear hF hT hE hEs hP hPs hPn hPc hel hpl h3 h4
  go_enter Try.func4, Try.ntmps4
  go_wp2_with fail
  refine HN.out.mono ?_
  rintro e w1 ⟨d, rfl, hO⟩
  clear HN
  have hO : Grommet.Own w w1 [devP d (storesR (F.take 0))] := hO
  have hO5 := hO.addBox 49 (((valsR (F.take 0)).map wv).toArray)
  obtain ⟨X, hX⟩ : ∃ q, w1.heap.size = q := ⟨_, rfl⟩
  rw [hX] at hO5
  have hO5 : Hid (Grommet.Own w _ [devP d (storesR (F.take 0)), boxP X 49 ((valsR (F.take 0)).map wv).toArray]) := Lib.hid hO5
  clear hO
  go_wp2_with fail
  go_loopw [12] (fun i wr => ∃ j : Nat, j ≤ fn ∧ i = .int .i64 (j : Int) ∧ Hid (Grommet.Own w wr [devP d (storesR (F.take j)), boxP X 49 ((valsR (F.take j)).map wv).toArray])) (fun i _ => fn - (intOf i).toNat)
  case atStart => exact ⟨0, Nat.zero_le _, rfl, hO5⟩
  case round =>
    clear hO5
    obtain ⟨j, hj, rfl, hR⟩ := hrel
    have j0 : (0 : Int) ≤ (j : Int) := by omega
    have hLl := HFi.out.1
    by_cases hlt : j < fn
    · have hlt' : (j : Int) < (fn : Int) := by omega
      obtain ⟨x, hx⟩ : ∃ x, F[j]? = some x := ⟨_, List.getElem?_eq_getElem (by omega)⟩
      obtain ⟨q, o, rfl, c0, c1, _⟩ := HFi.out.2.2 j x hx
      have hO := hR.out
      have hg := hO.grown
      have c0o := Lib.hid c0
      have c1o := Lib.hid c1
      replace c0 := hg.cell c0 (by simp)
      replace c1 := hg.cell c1 (by simp)
      have hok := HFi.out.2.1 x (List.mem_of_getElem? hx)
      obtain ⟨a, v, -, e2, hv64, e4, e5, ha16, e7, e8⟩ := put_nums x hok
      have c1o2 := c1o.out
      rw [e2] at c1 c1o2
      have htake : F.take (j + 1) = F.take j ++ [x] := by rw [List.take_add_one, hx]; rfl
      have hn1 : storesR (F.take (j + 1)) = (storesR (F.take j)).modify a (·.store v) := by rw [htake, storesR_snoc]; unfold stR; rw [← e4, ← e5]
      have hn2 : valsR (F.take (j + 1)) = (valsR (F.take j)).set a v := by rw [htake, valsR_snoc]; unfold vR; rw [← e4, ← e5]
      have hTl : (storesR (F.take j)).length = 16 := by unfold storesR; rw [stores_len, zero16_len]
      have hVl : (valsR (F.take j)).length = 16 := by unfold valsR; rw [vals_len, List.length_replicate]
      obtain ⟨cc, hcc⟩ : ∃ cc, (storesR (F.take j))[a]? = some cc := ⟨_, List.getElem?_eq_getElem (by omega)⟩
      have HS := Lib.hid (StoreH 0 d _ w wr _ hO rfl a cc hcc v hv64)
      rw [← hn1] at HS
      have HB := Lib.hid (fun (wx : World) (hOx : Grommet.Own w wx [devP d (storesR (F.take (j + 1))), boxP X 49 ((valsR (F.take j)).map wv).toArray]) =>
        show wx.cell? ⟨X, a, none⟩ = some (wv ((valsR (F.take j)).getD a 0)) ∧ wx.frozen? ⟨X, a, none⟩ = false ∧ wx.cell? ⟨q, o + j * 3, none⟩ = some (.int .u8 x.pl) ∧ wx.cell? ⟨q, o + j * 3 + 1, none⟩ = some (.int .u64 (v : Int)) ∧ Grommet.Own w (wx.setCell ⟨X, a, none⟩ (wv v)) [devP d (storesR (F.take (j + 1))), boxP X 49 ((valsR (F.take (j + 1))).map wv).toArray] from by
          have hbx := Grommet.Own.box hOx 1 rfl
          refine ⟨row_cell hbx _ _ (by rw [List.getElem?_map, List.getD_eq_getElem?_getD, List.getElem?_eq_getElem (by omega : a < (valsR (F.take j)).length)]; rfl), row_free hbx a, hOx.grown.cell c0o.out (by simp), hOx.grown.cell c1o2 (by simp), ?_⟩
          have := own_boxset hOx 1 rfl a (wv v)
          rw [hn2, List.map_set]
          exact this)
      have wa : IntKind.u8.wrap (a : Int) = (a : Int) := IntWalk.u8_in _ ⟨by omega, by omega⟩
      have wa2 : IntKind.i64.wrap (a : Int) = (a : Int) := IntWalk.i64_in _ ⟨by omega, by omega⟩
      have wj : IntKind.i64.wrap ((j : Int) + 1) = (j : Int) + 1 := IntWalk.i64_in _ ⟨by omega, by omega⟩
      have a0 : (0 : Int) ≤ (a : Int) := by omega
      have a1 : (a : Int) < 16 := by omega
      have Hj := Lib.hid hlt
      unfold ptr at HS
      clear hO hR hok e2 e4 e5 hx hg hv64 hLl hlt hj hTl hVl hcc htake hn1 hn2 c1o2 c0o c1o
      go_wp2_with fail
      refine HS.out.mono ?_
      rintro e w2 ⟨rfl, hO⟩
      clear HS
      obtain ⟨b1, b2, b3, b4, b5⟩ := HB.out w2 hO
      have hO2 := Lib.hid b5
      clear hO HB b5 c0 c1
      unfold wv at b1 hO2
      go_wp2
      go_roundw
      case rel => exact ⟨j + 1, Hj.out, by go_num, hO2⟩
      case measure => have := Hj.out; simp [intOf]; omega
    · obtain rfl : j = fn := by omega
      have hlt' : ¬ (j : Int) < (j : Int) := by omega
      have hall : F.take j = F := List.take_of_length_le (by omega)
      rw [hall] at hR
      have hO := hR.out
      have hfr := Lib.hid (show Freshs (valsR F) (storesR F) from fresh_all F _ _ fresh_zero)
      have hTl := Lib.hid (show (storesR F).length = 16 by unfold storesR; rw [stores_len, zero16_len])
      have hVl := Lib.hid (show (valsR F).length = 16 by unfold valsR; rw [vals_len, List.length_replicate])
      generalize storesR F = ws at hO hfr hTl
      generalize valsR F = vs at hO hfr hVl
      clear hR hall hLl hlt hj HFi g1
      have HE := Lib.hid (FlushH 0 d ws w wr _ hO rfl 0 (by rw [hTl.out]; decide))
      unfold ptr at HE
      clear hO
      go_wp2_with fail
      refine HE.out.mono ?_
      rintro e w2 ⟨rfl, hO⟩
      clear HE
      have HE := Lib.hid (FlushH 0 d _ w w2 _ hO rfl 1 (by rw [turnFrom_len, hTl.out]; decide))
      unfold ptr at HE
      clear hO
      go_wp2_with fail
      refine HE.out.mono ?_
      rintro e w3 ⟨rfl, hO⟩
      clear HE
      have HE := Lib.hid (FenceH 0 d _ w w3 _ hO rfl 2 (by rw [turnFrom_len, turnFrom_len, hTl.out]))
      rw [hfr.out.fenced hTl.out] at HE
      unfold ptr at HE
      clear hO
      go_wp2_with fail
      refine HE.out.mono ?_
      rintro e w4 ⟨rfl, hO⟩
      clear HE
      have hO : Grommet.Own w w4 [devP d (vs.map settledW), boxP X 49 (vs.map wv).toArray] := hO
      have HL := Lib.hid (LooseH 0 d _ w w4 _ hO rfl 2 (by rw [List.length_map, hVl.out]))
      rw [settled_loose] at HL
      unfold ptr at HL
      clear hO hfr hTl
      go_wp2_with fail
      refine HL.out.mono ?_
      rintro e w5 ⟨rfl, hO⟩
      clear HL
      have hO : Hid (∃ ws, ws.length = 16 ∧ Helds (In vs T) ws ∧ Grommet.Own w w5 [devP d ws, boxP X 49 (vs.map wv).toArray]) := Lib.hid ⟨_, by rw [List.length_map, hVl.out], settled_held vs _ (fun k v h => .inl h), hO⟩
      go_wp2_with fail
      go_loopw [14] (fun i wr => ∃ j : Nat, j ≤ tn ∧ i = .int .i64 (j : Int) ∧ Hid (∃ ws, ws.length = 16 ∧ Helds (In vs T) ws ∧ Grommet.Own w wr [devP d ws, boxP X 49 (vs.map wv).toArray])) (fun i _ => tn - (intOf i).toNat)
      case atStart => exact ⟨0, Nat.zero_le _, rfl, hO⟩
      case round =>
        clear hO
        obtain ⟨j, hj, rfl, hR⟩ := hrel
        obtain ⟨ws, hwl, hheld, hO⟩ := hR.out
        have j0 : (0 : Int) ≤ (j : Int) := by omega
        have hLl := HTi.out.1
        by_cases hlt : j < tn
        · have hlt' : (j : Int) < (tn : Int) := by omega
          obtain ⟨x, hx⟩ : ∃ x, T[j]? = some x := ⟨_, List.getElem?_eq_getElem (by omega)⟩
          obtain ⟨q, o, rfl, c0, c1, c2⟩ := HTi.out.2.2 j x hx
          have hg := hO.grown
          replace c0 := hg.cell c0 (by simp)
          replace c1 := hg.cell c1 (by simp)
          replace c2 := hg.cell c2 (by simp)
          have hok := HTi.out.2.1 x (List.mem_of_getElem? hx)
          have hmem := List.mem_of_getElem? hx
          have hnext := Lib.hid (put_held hmem hheld)
          have hnl := Lib.hid (show (putR ws x).length = 16 by rw [putR_len, hwl])
          obtain ⟨a, v, -, e2, hv64, e4, e5, ha16, e7, e8⟩ := put_nums x hok
          rw [e2] at c1
          have wa : IntKind.u8.wrap (a : Int) = (a : Int) := IntWalk.u8_in _ ⟨by omega, by omega⟩
          have wa2 : IntKind.i64.wrap (a : Int) = (a : Int) := IntWalk.i64_in _ ⟨by omega, by omega⟩
          have wj : IntKind.i64.wrap ((j : Int) + 1) = (j : Int) + 1 := IntWalk.i64_in _ ⟨by omega, by omega⟩
          have wq : Int.tdiv (a : Int) 8 = ((a / 8 : Nat) : Int) := by rw [Int.tdiv_eq_ediv_of_nonneg (by omega)]; omega
          have wq2 : (a : Int) / 8 = ((a / 8 : Nat) : Int) := by omega
          have wq3 : IntKind.i64.wrap ((a / 8 : Nat) : Int) = ((a / 8 : Nat) : Int) := IntWalk.i64_in _ ⟨by omega, by omega⟩
          have Hj := Lib.hid hlt
          cases hf : x.fl with
          | true =>
            rw [hf] at c2
            have hpr : putR ws x = turnFrom PW.flush (8 * (a / 8)) 8 ws := by unfold putR; rw [if_pos hf, ← e4]
            have ST := Lib.hid (FlushH 0 d ws w wr _ hO rfl (a / 8) (by rw [hwl]; omega))
            rw [← hpr] at ST
            obtain ⟨A, hA⟩ : ∃ A, a / 8 = A := ⟨_, rfl⟩
            rw [hA] at ST wq wq2 wq3
            unfold ptr at ST
            generalize putR ws x = ws' at ST hnext hnl
            clear hO hR hok e2 e4 e5 hx hg hv64 hLl hlt hj hmem hpr hheld hwl hA
            go_wp2_with fail
            refine ST.out.mono ?_
            rintro e w6 ⟨rfl, hO⟩
            clear ST
            have hO : Hid (∃ ws, ws.length = 16 ∧ Helds (In vs T) ws ∧ Grommet.Own w w6 [devP d ws, boxP X 49 (vs.map wv).toArray]) := Lib.hid ⟨_, hnl.out, hnext.out, hO⟩
            go_wp2
            go_roundw
            case rel => exact ⟨j + 1, Hj.out, by go_num, hO⟩
            case measure => have := Hj.out; simp [intOf]; omega
          | false =>
            rw [hf] at c2
            have hpr : putR ws x = ws.modify a (·.store v) := by unfold putR; rw [if_neg (by rw [hf]; decide), ← e4, ← e5]
            obtain ⟨cc, hcc⟩ : ∃ cc, ws[a]? = some cc := ⟨_, List.getElem?_eq_getElem (by omega)⟩
            have ST := Lib.hid (StoreH 0 d ws w wr _ hO rfl a cc hcc v hv64)
            rw [← hpr] at ST
            unfold ptr at ST
            generalize putR ws x = ws' at ST hnext hnl
            clear hO hR hok e2 e4 e5 hx hg hv64 hLl hlt hj hmem hpr hheld hwl hcc
            go_wp2_with fail
            refine ST.out.mono ?_
            rintro e w6 ⟨rfl, hO⟩
            clear ST
            have hO : Hid (∃ ws, ws.length = 16 ∧ Helds (In vs T) ws ∧ Grommet.Own w w6 [devP d ws, boxP X 49 (vs.map wv).toArray]) := Lib.hid ⟨_, hnl.out, hnext.out, hO⟩
            go_wp2
            go_roundw
            case rel => exact ⟨j + 1, Hj.out, by go_num, hO⟩
            case measure => have := Hj.out; simp [intOf]; omega
        · obtain rfl : tn = j := by omega
          have hlt' : ¬ (tn : Int) < (tn : Int) := by omega
          have hO := hR
          clear hR hLl hlt hj hheld hwl
          go_wp2_with fail
          go_loopw [17] (fun i wr => ∃ j : Nat, j ≤ el ∧ i = .int .i64 (j : Int) ∧ Hid (∃ ws, ws.length = 16 ∧ Helds (In vs T) ws ∧ Grommet.Own w wr [devP d ws, boxP X 49 (vs.map wv).toArray])) (fun i _ => el - (intOf i).toNat)
          case atStart => exact ⟨0, Nat.zero_le _, rfl, hO⟩
          case round =>
            clear hO
            obtain ⟨i, hi, rfl, hR⟩ := hrel
            obtain ⟨ws, hwl, hheld, hO⟩ := hR.out
            have i0 : (0 : Int) ≤ (i : Int) := by omega
            by_cases hlt : i < el
            · have hlt' : (i : Int) < (el : Int) := by omega
              obtain ⟨x, hx⟩ : ∃ x, es[i]? = some x := ⟨_, List.getElem?_eq_getElem (by rw [HEi.out.2.2]; omega)⟩
              obtain ⟨q, o, rfl, c0⟩ := HEi.out.1 i (u8v x) (by rw [List.getElem?_map, hx]; rfl)
              replace c0 := hO.grown.cell c0 (by simp)
              have hxs := HEi.out.2.1 x (List.mem_of_getElem? hx)
              obtain ⟨a, ha⟩ : ∃ a, x % 2 = a := ⟨_, rfl⟩
              have ha2 : a < 2 := by omega
              have e7 : Int.tmod (x : Int) 2 = (a : Int) := by rw [Int.tmod_eq_emod_of_nonneg (by omega)]; omega
              have e8 : (x : Int) % 2 = (a : Int) := by omega
              have wa : IntKind.u8.wrap (a : Int) = (a : Int) := IntWalk.u8_in _ ⟨by omega, by omega⟩
              have wa2 : IntKind.i64.wrap (a : Int) = (a : Int) := IntWalk.i64_in _ ⟨by omega, by omega⟩
              have wi : IntKind.i64.wrap ((i : Int) + 1) = (i : Int) + 1 := IntWalk.i64_in _ ⟨by omega, by omega⟩
              have HE := Lib.hid (EvictH 0 d ws w wr _ hO rfl a (by rw [hwl]; omega))
              have hnl := Lib.hid (show (turnFrom PW.evict (8 * a) 8 ws).length = 16 by rw [turnFrom_len, hwl])
              have hnext := Lib.hid (show Helds (In vs T) (turnFrom PW.evict (8 * a) 8 ws) from hheld.turn (fun _ _ _ _ hh => hh.evict))
              generalize turnFrom PW.evict (8 * a) 8 ws = ws' at HE hnl hnext
              have Hi := Lib.hid hlt
              unfold ptr at HE
              unfold u8v at c0
              clear hO hR hx hxs ha hlt hi hheld hwl
              go_wp2_with fail
              refine HE.out.mono ?_
              rintro e w6 ⟨rfl, hO⟩
              clear HE
              have hO : Hid (∃ ws, ws.length = 16 ∧ Helds (In vs T) ws ∧ Grommet.Own w w6 [devP d ws, boxP X 49 (vs.map wv).toArray]) := Lib.hid ⟨_, hnl.out, hnext.out, hO⟩
              go_wp2
              go_roundw
              case rel => exact ⟨i + 1, Hi.out, by go_num, hO⟩
              case measure => have := Hi.out; simp [intOf]; omega
            · obtain rfl : i = el := by omega
              have hlt' : ¬ (i : Int) < (i : Int) := by omega
              have HC := Lib.hid (HCr.out d ws wr _ hO rfl hwl)
              have hcl := Lib.hid (show (crash ws ps).length = 16 by rw [crash_len, hwl])
              have hch := Lib.hid (Helds.crash ws ps hheld)
              have hc0 := Lib.hid (crash_loose ws ps).1
              have hcs := Lib.hid (crash_same hheld ps)
              generalize crash ws ps = cw at HC hcl hch hc0 hcs
              clear hO hR hlt hi hheld hwl HCr HEi g3
              go_wp2_with fail
              refine HC.out.mono ?_
              rintro e w6 ⟨rfl, hO⟩
              clear HC
              have hO : Grommet.Own w w6 [devP d cw, boxP X 49 (vs.map wv).toArray] := hO
              have hsm := Lib.hid (own_smalls hO (k := 0) rfl)
              have HL := Lib.hid (LooseH 0 d cw w w6 _ hO rfl 2 hcl.out)
              rw [hc0.out] at HL
              unfold ptr at HL
              clear hO
              go_wp2_with fail
              refine HL.out.mono ?_
              rintro e w7 ⟨rfl, hO⟩
              clear HL
              have HS := Lib.hid (SureH 0 d cw w w7 _ hO rfl 2 hcl.out)
              rw [hcl.out] at HS
              unfold ptr at HS
              clear hO
              go_wp2_with fail
              refine HS.out.mono ?_
              rintro e w8 ⟨ad, cap, rfl, hO⟩
              clear HS
              have hO : Grommet.Own w w8 [devP d cw, boxP X 49 (vs.map wv).toArray, rowP 32 1 (.slice ad 16 cap) 16 ((cw.map (·.sure)).map wv)] := hO
              have HS := Lib.hid (SeenH 0 d cw w w8 _ hO rfl 2 hcl.out)
              rw [hcl.out, hcs.out] at HS
              unfold ptr at HS
              clear hO
              go_wp2_with fail
              refine HS.out.mono ?_
              rintro e w9 ⟨ad2, cap2, rfl, hO⟩
              clear HS
              have hO : Grommet.Own w w9 [devP d cw, boxP X 49 (vs.map wv).toArray, rowP 32 1 (.slice ad 16 cap) 16 ((cw.map (·.sure)).map wv), rowP 32 1 (.slice ad2 16 cap2) 16 ((cw.map (·.sure)).map wv)] := hO
              have HQ := Lib.hid (Same_any _ _ 16 16 cap cap2 _ _ w9 (devs_words hO 2 rfl (sure_small hsm.out) (by decide)).1 (devs_words hO 3 rfl (sure_small hsm.out) (by decide)).1)
              rw [decide_eq_true rfl] at HQ
              replace hO := Lib.hid hO
              go_wp2_with fail
              refine HQ.out.mono ?_
              rintro e w10 ⟨rfl, hg⟩
              clear HQ
              have hO10 : Grommet.Own w w10 [devP d cw, boxP X 49 (vs.map wv).toArray, rowP 32 1 (.slice ad 16 cap) 16 ((cw.map (·.sure)).map wv)] := Grommet.Own.less (Qs := [_]) (hO.out.quiet hg)
              clear hO hg
              have hO := Lib.hid hO10
              clear hO10
              go_wp2_with fail
              go_loopw [19] (fun i wr => ∃ k : Nat, k ≤ 16 ∧ i = .int .i64 (k : Int) ∧ Hid (Grommet.Own w wr [devP d cw, boxP X 49 (vs.map wv).toArray, rowP 32 1 (.slice ad 16 cap) 16 ((cw.map (·.sure)).map wv)])) (fun i _ => 16 - (intOf i).toNat)
              case atStart => exact ⟨0, by decide, rfl, hO⟩
              case round =>
                clear hO
                obtain ⟨k, hk, rfl, hR⟩ := hrel
                have k0 : (0 : Int) ≤ (k : Int) := by omega
                by_cases hlt : k < 16
                · have hlt' : (k : Int) < 16 := by omega
                  obtain ⟨c, hc⟩ : ∃ c, cw[k]? = some c := ⟨_, List.getElem?_eq_getElem (by rw [hcl.out]; omega)⟩
                  obtain ⟨wa, hwa⟩ : ∃ wa, vs[k]? = some wa := ⟨_, List.getElem?_eq_getElem (by rw [hVl.out]; omega)⟩
                  have hfine := Lib.hid (fine_of ((hch.out k c hc).sure) hwa)
                  obtain ⟨qr, rfl, cs, _, _⟩ := hR.out.cell 2 rfl k (wv c.sure) (by rw [List.getElem?_map, List.getElem?_map, hc]; rfl)
                  have cX : wr.cell? ⟨X, k, none⟩ = some (wv wa) := row_cell (Grommet.Own.box hR.out 1 rfl) _ _ (by rw [List.getElem?_map, hwa]; rfl)
                  obtain ⟨sv, hsv⟩ : ∃ sv, c.sure = sv := ⟨_, rfl⟩
                  have hcsure := Lib.hid (fun (wx : World) (hOx : Grommet.Own w wx [devP d cw, boxP X 49 (vs.map wv).toArray, rowP 32 1 (.slice (some ⟨qr, 0, none⟩) 16 cap) 16 ((cw.map (·.sure)).map wv)]) => show wx.cell? ⟨qr, k, none⟩ = some (.int .u64 (sv : Int)) from by
                    obtain ⟨_, hq, cs, _, _⟩ := hOx.cell 2 rfl k (wv c.sure) (by rw [List.getElem?_map, List.getElem?_map, hc]; rfl)
                    cases hq
                    rw [← hsv]; exact cs)
                  rw [hsv] at cs hfine
                  have wk : IntKind.i64.wrap ((k : Int) + 1) = (k : Int) + 1 := IntWalk.i64_in _ ⟨by omega, by omega⟩
                  have Hk := Lib.hid hlt
                  obtain ⟨b0, hb0⟩ : ∃ b0, (sv == wa) = b0 := ⟨_, rfl⟩
                  have hb0' : ((sv : Int) == (wa : Int)) = b0 := by rw [← hb0, Bool.eq_iff_iff]; simp only [beq_iff_eq]; omega
                  rw [hb0] at hfine
                  unfold wv at cs cX
                  clear hc hwa hsv hlt hk hb0
                  go_wp2_with fail
                  go_quiet (fail)
                  have hO := Lib.hid (hR.out.quiet (grown_drewN wr nq none))
                  clear hR cs cX
                  go_wp2_with fail
                  go_loopw [20, 21] (fun f i wr => ∃ j : Nat, j ≤ tn ∧ i = .int .i64 (j : Int) ∧ f = .bool (fineB b0 k sv (T.take j)) ∧ Hid (Grommet.Own w wr [devP d cw, boxP X 49 (vs.map wv).toArray, rowP 32 1 (.slice (some ⟨qr, 0, none⟩) 16 cap) 16 ((cw.map (·.sure)).map wv)])) (fun _ i _ => tn - (intOf i).toNat)
                  case atStart => exact ⟨0, Nat.zero_le _, rfl, by unfold fineB; simp, hO⟩
                  case round =>
                    clear hO
                    obtain ⟨j, hj, rfl, rfl, hR⟩ := hrel
                    have j0 : (0 : Int) ≤ (j : Int) := by omega
                    have hLl := HTi.out.1
                    by_cases hlt : j < tn
                    · have hlt' : (j : Int) < (tn : Int) := by omega
                      obtain ⟨x, hx⟩ : ∃ x, T[j]? = some x := ⟨_, List.getElem?_eq_getElem (by omega)⟩
                      obtain ⟨q, o, rfl, c0, c1, c2⟩ := HTi.out.2.2 j x hx
                      have hg := hR.out.grown
                      replace c0 := hg.cell c0 (by simp)
                      replace c1 := hg.cell c1 (by simp)
                      replace c2 := hg.cell c2 (by simp)
                      have cs := hcsure.out wr hR.out
                      have hok := HTi.out.2.1 x (List.mem_of_getElem? hx)
                      obtain ⟨a, v, -, e2, hv64, e4, e5, ha16, e7, e8⟩ := put_nums x hok
                      rw [e2] at c1
                      have wa : IntKind.u8.wrap (a : Int) = (a : Int) := IntWalk.u8_in _ ⟨by omega, by omega⟩
                      have wa2 : IntKind.i64.wrap (a : Int) = (a : Int) := IntWalk.i64_in _ ⟨by omega, by omega⟩
                      have wj : IntKind.i64.wrap ((j : Int) + 1) = (j : Int) + 1 := IntWalk.i64_in _ ⟨by omega, by omega⟩
                      have hnext : fineB b0 k sv (T.take (j + 1)) = (fineB b0 k sv (T.take j) || (!x.fl && (a == k) && (v == sv))) := by
                        rw [List.take_add_one, hx]
                        show fineB b0 k sv (T.take j ++ [x]) = _
                        rw [fineB_snoc]; unfold fits; rw [← e4, ← e5]
                      have Hj := Lib.hid hlt
                      have HR := Lib.hid (fun m => Grommet.Own.quiet hR.out (grown_drewN wr m none))
                      obtain ⟨B, hB⟩ : ∃ B, fineB b0 k sv (T.take j) = B := ⟨_, rfl⟩
                      rw [hB] at hnext ⊢
                      have hak : ((a : Int) == (k : Int)) = (a == k) := by rw [Bool.eq_iff_iff]; simp only [beq_iff_eq]; omega
                      have hvs : ((v : Int) == (sv : Int)) = (v == sv) := by rw [Bool.eq_iff_iff]; simp only [beq_iff_eq]; omega
                      obtain ⟨b1, hb1⟩ : ∃ b1, (a == k) = b1 := ⟨_, rfl⟩
                      obtain ⟨b2, hb2⟩ : ∃ b2, (v == sv) = b2 := ⟨_, rfl⟩
                      rw [hb1, hb2] at hnext
                      rw [hb1] at hak
                      rw [hb2] at hvs
                      clear hB hR hok e2 e4 e5 hx hg hv64 hLl hlt hj hb1 hb2
                      cases B with
                      | true =>
                        have Hn := Lib.hid (show fineB b0 k sv (T.take (j + 1)) = true by rw [hnext]; rfl)
                        clear hnext
                        go_wp2_with fail
                        go_quiet (fail)
                        go_wp2
                        go_roundw
                        case rel => exact ⟨j + 1, Hj.out, by go_num, by rw [Hn.out], Lib.hid (HR.out _)⟩
                        case measure => have := Hj.out; simp [intOf]; omega
                      | false =>
                        cases hf : x.fl with
                        | true =>
                          rw [hf] at c2 hnext
                          have Hn := Lib.hid (show fineB b0 k sv (T.take (j + 1)) = false by rw [hnext]; rfl)
                          clear hnext hf
                          go_wp2_with fail
                          go_quiet (fail)
                          go_wp2
                          go_roundw
                          case rel => exact ⟨j + 1, Hj.out, by go_num, by rw [Hn.out], Lib.hid (HR.out _)⟩
                          case measure => have := Hj.out; simp [intOf]; omega
                        | false =>
                          rw [hf] at c2 hnext
                          clear hf
                          cases b1 with
                          | false =>
                            have Hn := Lib.hid (show fineB b0 k sv (T.take (j + 1)) = false by rw [hnext]; rfl)
                            clear hnext
                            go_wp2_with fail
                            go_quiet (fail)
                            go_wp2
                            go_roundw
                            case rel => exact ⟨j + 1, Hj.out, by go_num, by rw [Hn.out], Lib.hid (HR.out _)⟩
                            case measure => have := Hj.out; simp [intOf]; omega
                          | true =>
                            have Hn := Lib.hid (show fineB b0 k sv (T.take (j + 1)) = b2 by rw [hnext]; cases b2 <;> rfl)
                            clear hnext
                            go_wp2_with fail
                            go_quiet (fail)
                            go_wp2
                            go_roundw
                            case rel => exact ⟨j + 1, Hj.out, by go_num, by rw [Hn.out], Lib.hid (HR.out _)⟩
                            case measure => have := Hj.out; simp [intOf]; omega
                    · obtain rfl : j = tn := by omega
                      have hlt' : ¬ (j : Int) < (j : Int) := by omega
                      rw [List.take_of_length_le (by omega), hfine.out]
                      have HR := Lib.hid hR.out
                      clear hR hLl hlt hj
                      go_wp2
                      go_roundw
                      case rel => exact ⟨k + 1, Hk.out, by go_num, HR⟩
                      case measure => have := Hk.out; simp [intOf]; omega
                · obtain rfl : k = 16 := by omega
                  have hgo := Lib.hid hR.out.grown
                  clear hR hlt hk
                  go_wp2_with fail
                  refine (works_any _).mono ?_
                  rintro e w16 ⟨rfl, hg16⟩
                  have hfin := Lib.hid (grown_trans hgo.out hg16)
                  clear hgo hg16
                  go_wp2
                  go_ret
                  exact ⟨rfl, hfin.out⟩

set_option maxRecDepth 100000 in
set_option maxHeartbeats 1000000 in
theorem walk_far (fd : Option Addr) (fn fc : Nat) (td : Option Addr) (tn tc : Nat) (ed : Option Addr) (el ec : Nat) (pd : Option Addr) (pl pc : Nat) (w : World) (h : 60 < fn ∨ 60 < tn ∨ 20 < el ∨ 100 < pl) :
    Calls Try.prog 4 #[.slice fd fn fc, .slice td tn tc, .slice ed el ec, .slice pd pl pc] w (WorksIs w) := by
  go_enter Try.func4, Try.ntmps4
  by_cases a1 : 60 < fn
  · have g1 : (60 : Int) < (fn : Int) := by omega
    go_wp2_with fail
    refine (works_any _).mono ?_
    rintro e w6 ⟨rfl, hg6⟩
    go_wp2
    go_ret
    exact ⟨rfl, hg6⟩
  · have g1 : ¬ (60 : Int) < (fn : Int) := by omega
    by_cases a2 : 60 < tn
    · have g2 : (60 : Int) < (tn : Int) := by omega
      go_wp2_with fail
      refine (works_any _).mono ?_
      rintro e w6 ⟨rfl, hg6⟩
      go_wp2
      go_ret
      exact ⟨rfl, hg6⟩
    · have g2 : ¬ (60 : Int) < (tn : Int) := by omega
      by_cases a3 : 20 < el
      · have g3 : (20 : Int) < (el : Int) := by omega
        go_wp2_with fail
        refine (works_any _).mono ?_
        rintro e w6 ⟨rfl, hg6⟩
        go_wp2
        go_ret
        exact ⟨rfl, hg6⟩
      · have g3 : ¬ (20 : Int) < (el : Int) := by omega
        have g4 : (100 : Int) < (pl : Int) := by omega
        go_wp2_with fail
        refine (works_any _).mono ?_
        rintro e w6 ⟨rfl, hg6⟩
        go_wp2
        go_ret
        exact ⟨rfl, hg6⟩
theorem u8_row {w : World} {a : Option Addr} {len cap : Nat} {zs : List Int} (h : RowIn .u8 w a len cap zs) : ∃ es : List Nat, es.length = len ∧ At w a (es.map u8v) ∧ (∀ p ∈ es, p < 256) ∧ (a = none → es = []) ∧ es.length ≤ cap := by
  obtain ⟨bs, hl, hat⟩ := h.bytes
  have hm : (bs.map (·.toNat)).map u8v = bs.map bv := by rw [List.map_map]; rfl
  refine ⟨bs.map (·.toNat), by rw [List.length_map, hl], by rw [hm]; exact hat, ?_, fun e => ?_, by rw [List.length_map, hl]; exact h.2.1⟩
  · intro p hp; obtain ⟨b, _, rfl⟩ := List.mem_map.1 hp; exact b.toNat_lt
  · have := (h.nil e).1; rw [← hl] at this; rw [List.eq_nil_of_length_eq_zero this]; rfl
theorem walk (fd : Option Addr) (fn fc : Nat) (F : List Put3) (td : Option Addr) (tn tc : Nat) (T : List Put3) (ed : Option Addr) (el ec : Nat) (ez : List Int) (pd : Option Addr) (pl pc : Nat) (pz : List Int) (w : World)
    (hF : PutsIn w fd fn F) (hT : PutsIn w td tn T) (hE : RowIn .u8 w ed el ec ez) (hP : RowIn .u8 w pd pl pc pz) :
    Calls Try.prog 4 #[.slice fd fn fc, .slice td tn tc, .slice ed el ec, .slice pd pl pc] w (WorksIs w) := by
  by_cases h : 60 < fn ∨ 60 < tn ∨ 20 < el ∨ 100 < pl
  · exact walk_far fd fn fc td tn tc ed el ec pd pl pc w h
  · obtain ⟨es, rfl, e1, e2, _, _⟩ := u8_row hE
    obtain ⟨ps, rfl, p1, p2, p3, p4⟩ := u8_row hP
    exact walk_near fd fn fc F td tn tc T ed ec es pd pc ps w hF hT e1 e2 p1 p2 p3 p4 (by omega) (by omega) (by omega) (by omega)
end Go.Proofs.Ytimihchklecabaa.pmemCrash
