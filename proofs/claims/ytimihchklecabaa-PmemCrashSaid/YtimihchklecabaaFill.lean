/- A device on which words were put. -/
import Derived.Test.YtimihchklecabaaPmM
import Derived.Test.YtimihchklecabaaPuts
import Derived.Test.YtimihchklecabaaWorks
namespace Go.Proofs.Ytimihchklecabaa
open Go.RowKit Go.Grommet Go.Shelf

/-- One put: a store, or a flush of its line. -/
def putR (ws : List PW) (x : Put3) : List PW := if x.fl then turnFrom PW.flush (8 * (x.pl.toNat % 16 / 8)) 8 ws else ws.modify (x.pl.toNat % 16) (·.store x.vv.toNat)
def fillR (ws : List PW) (L : List Put3) : List PW := L.foldl putR ws
theorem putR_len (ws : List PW) (x : Put3) : (putR ws x).length = ws.length := by
  unfold putR; split
  · exact turnFrom_len _ _ _ _
  · exact List.length_modify _ _ _
theorem fillR_len : ∀ (L : List Put3) (ws : List PW), (fillR ws L).length = ws.length
  | [], _ => rfl
  | x :: L, ws => by show (fillR (putR ws x) L).length = _; rw [fillR_len L, putR_len]
theorem fillR_snoc (L : List Put3) (ws : List PW) (x : Put3) : fillR ws (L ++ [x]) = putR (fillR ws L) x := by unfold fillR; rw [List.foldl_append]; rfl
def zero16 : List PW := List.replicate 16 PW.nought
theorem zero16_len : zero16.length = 16 := List.length_replicate

/-- The numbers of one put, as the walk has them. -/
theorem put_nums (x : Put3) (hx : x.Ok) : ∃ a v : Nat, x.pl = ((x.pl.toNat : Nat) : Int) ∧ x.vv = (v : Int) ∧ v < 18446744073709551616 ∧ a = x.pl.toNat % 16 ∧ v = x.vv.toNat ∧ a < 16 ∧ x.pl.tmod 16 = (a : Int) ∧ x.pl % 16 = (a : Int) := by
  have h1 := bounds_u8 hx.1
  have h2 := bounds_u64 hx.2
  refine ⟨x.pl.toNat % 16, x.vv.toNat, by omega, by omega, by omega, rfl, rfl, Nat.mod_lt _ (by decide), ?_, ?_⟩
  · rw [Int.tmod_eq_emod_of_nonneg (by omega)]; omega
  · omega

set_option maxRecDepth 100000 in
set_option maxHeartbeats 400000 in
theorem filledH (td : Option Addr) (n tc : Nat) (L : List Put3) (w0 w : World) (Ps : List Pr) (h : Grommet.Own w0 w Ps) (hT : PutsIn w0 td n L) (hn : n ≤ 60) :
    Calls Try.prog 33 #[.slice td n tc] w fun e w' => ∃ d, e = .returned (.tuple #[ptr d, .bool true]) ∧ Grommet.Own w0 w' (Ps ++ [devP d (fillR zero16 L)]) := by
  have HN := Lib.hid (NewH 16 w0 w Ps h (by decide) (by decide) (by decide))
  have n0 : ¬ (60 : Int) < (n : Int) := by omega
  have HT := Lib.hid hT
  have hLl := hT.1
  have Hstep := Lib.hid (fun (d : Nat) (ws : List PW) (hws : ws.length = 16) (w' : World) (hO : Grommet.Own w0 w' (Ps ++ [devP d ws])) (x : Put3) (hx : x.Ok) (a v : Nat) (ha : a = x.pl.toNat % 16) (hv : v = x.vv.toNat) (ha16 : a < 16) (hv64 : v < 18446744073709551616) =>
    show (x.fl = true → Calls Try.prog 17 #[ptr d, .int .i64 ((a / 8 : Nat) : Int)] w' fun e w2 => e = .returned (.int .i64 0) ∧ Grommet.Own w0 w2 (Ps ++ [devP d (putR ws x)])) ∧ (x.fl = false → Calls Try.prog 15 #[ptr d, .int .i64 (a : Int), .int .u64 (v : Int)] w' fun e w2 => e = .returned (.int .i64 0) ∧ Grommet.Own w0 w2 (Ps ++ [devP d (putR ws x)])) from by
    have hset : ∀ P, (Ps ++ [devP d ws]).set Ps.length P = Ps ++ [P] := by intro P; simp
    constructor
    · intro hf
      have := FlushH Ps.length d ws w0 w' _ hO (by simp) (a / 8) (by rw [hws]; omega)
      rw [hset] at this
      unfold putR
      rw [if_pos hf, ← ha]
      exact this
    · intro hf
      obtain ⟨c, hc⟩ : ∃ c, ws[a]? = some c := ⟨_, List.getElem?_eq_getElem (by omega)⟩
      have := StoreH Ps.length d ws w0 w' _ hO (by simp) a c hc v hv64
      rw [hset] at this
      unfold putR
      rw [if_neg (by rw [hf]; decide), ← ha, ← hv]
      exact this)
  clear h hT
  unfold ptr at HN Hstep ⊢
  go_enter Try.func33, Try.ntmps33
  go_wp2_with fail
  refine HN.out.mono ?_
  rintro e w1 ⟨d, rfl, hO⟩
  replace hO := Lib.hid hO
  clear HN
  go_wp2_with fail
  go_loopw [6] (fun i wr => ∃ j : Nat, j ≤ n ∧ i = .int .i64 (j : Int) ∧ Hid (Grommet.Own w0 wr (Ps ++ [devP d (fillR zero16 (L.take j))]))) (fun i _ => n - (intOf i).toNat)
  case atStart => exact ⟨0, Nat.zero_le _, rfl, hO⟩
  case round =>
    clear hO
    obtain ⟨j, hj, rfl, hR⟩ := hrel
    have j0 : (0 : Int) ≤ (j : Int) := by omega
    by_cases hlt : j < n
    · have hlt' : (j : Int) < (n : Int) := by omega
      obtain ⟨x, hx⟩ : ∃ x, L[j]? = some x := ⟨_, List.getElem?_eq_getElem (by omega)⟩
      obtain ⟨q, o, rfl, c0, c1, c2⟩ := HT.out.2.2 j x hx
      have hg := hR.out.grown
      replace c0 := hg.cell c0 (by simp)
      replace c1 := hg.cell c1 (by simp)
      replace c2 := hg.cell c2 (by simp)
      have hok := HT.out.2.1 x (List.mem_of_getElem? hx)
      obtain ⟨a, v, -, e2, hv64, e4, e5, ha16, e7, e8⟩ := put_nums x hok
      obtain ⟨st1, st2⟩ := Hstep.out d (fillR zero16 (L.take j)) (by rw [fillR_len, zero16_len]) wr hR.out x hok a v e4 e5 ha16 hv64
      rw [e2] at c1
      have hnext : Hid (putR (fillR zero16 (L.take j)) x = fillR zero16 (L.take (j + 1))) := Lib.hid (by
        rw [← fillR_snoc]; congr 1; rw [List.take_add_one, hx]; rfl)
      rw [hnext.out] at st1 st2
      have wa : IntKind.u8.wrap (a : Int) = (a : Int) := IntWalk.u8_in _ ⟨by omega, by omega⟩
      have wa2 : IntKind.i64.wrap (a : Int) = (a : Int) := IntWalk.i64_in _ ⟨by omega, by omega⟩
      have wj : IntKind.i64.wrap ((j : Int) + 1) = (j : Int) + 1 := IntWalk.i64_in _ ⟨by omega, by omega⟩
      have wq : Int.tdiv (a : Int) 8 = ((a / 8 : Nat) : Int) := by rw [Int.tdiv_eq_ediv_of_nonneg (by omega)]; omega
      have wq2 : (a : Int) / 8 = ((a / 8 : Nat) : Int) := by omega
      have wq3 : IntKind.i64.wrap ((a / 8 : Nat) : Int) = ((a / 8 : Nat) : Int) := IntWalk.i64_in _ ⟨by omega, by omega⟩
      cases hf : x.fl with
      | true =>
        rw [hf] at c2
        have ST := Lib.hid (st1 hf)
        obtain ⟨A, hA⟩ : ∃ A, a / 8 = A := ⟨_, rfl⟩
        rw [hA] at ST wq wq2 wq3
        clear st1 st2 hnext hok e2 e4 e5 hx hg hR hv64 hLl
        go_wp2_with fail
        refine ST.out.mono ?_
        rintro e w2 ⟨rfl, hO⟩
        replace hO := Lib.hid hO
        clear ST
        go_wp2
        go_roundw
        case rel => exact ⟨j + 1, by omega, by go_num, hO⟩
        case measure => simp [intOf]; omega
      | false =>
        rw [hf] at c2
        have ST := Lib.hid (st2 hf)
        clear st1 st2 hnext hok e2 e4 e5 hx hg hR hv64 hLl
        go_wp2_with fail
        refine ST.out.mono ?_
        rintro e w2 ⟨rfl, hO⟩
        replace hO := Lib.hid hO
        clear ST
        go_wp2
        go_roundw
        case rel => exact ⟨j + 1, by omega, by go_num, hO⟩
        case measure => simp [intOf]; omega
    · obtain rfl : j = n := by omega
      have hlt' : ¬ (j : Int) < (j : Int) := by omega
      have hall : L.take j = L := List.take_of_length_le (by omega)
      rw [hall] at hR
      go_wp2
      exact bodyPost_ret (v := .tuple #[.pointer (some ⟨d, 0, none⟩), .bool true]) (by simp [results, Try.results33, go_sem]) rfl ⟨d, rfl, hR.out⟩
end Go.Proofs.Ytimihchklecabaa
