/- Package lock: Held. -/
import Derived.Test.YtclicjdgkcnihaaLoqA
import Derived.Test.YtclicjdgkcnihaaApp
import Derived.Test.YtclicjdgkcnihaaBase6
namespace Go.Proofs.Ytclicjdgkcnihaa
open Go.RowKit Go.Grommet

theorem own_append {w0 w w' : World} {Ps : List Pr} (h : Grommet.Own w0 w Ps) (k : Nat) {e sz n n' : Nat} {v v' : Value} {xs ys : List Value} (hk : Ps[k]? = some (rowP e sz v n xs)) (hr : w'.ownsRow 0 e sz v' n' ys) (hg : w.grownBy w' v.ownBlock)
    (hnew : ∀ g, v'.ownBlock = some g → v.ownBlock = some g ∨ w.heap.size ≤ g) : Grommet.Own w0 w' (Ps.set k (rowP e sz v' n' ys)) := by
  obtain ⟨F, h1, h2⟩ := h.take k hk
  refine h2 _ _ ⟨fun i => F i ∨ w.heap.size ≤ i ∧ i < w'.heap.size, ⟨hr, fun i hi => ?_, fun i hi => ?_⟩, fun i hi => hi.imp id (fun x => x.1), Turn.of hg (fun i e => h1.2.1 i e)⟩
  · rcases hnew i hi with e | e
    · exact .inl (h1.2.1 i e)
    · exact .inr ⟨e, row_old hr i hi⟩
  · rcases hi with hi | hi
    · exact Nat.lt_of_lt_of_le (h1.2.2 i hi) hg.size
    · exact hi.2
theorem own_nilRow {w0 w : World} {Ps : List Pr} (h : Grommet.Own w0 w Ps) (e size : Nat) : Grommet.Own w0 w (Ps ++ [rowP e size (.slice none 0 0) 0 []]) :=
  h.addRow ⟨by simp, .inl ⟨rfl, rfl⟩⟩ (World.grownBy.refl _ _)

theorem lastP (Ps : List Pr) (P : Pr) : (Ps ++ [P])[Ps.length]? = some P := by simp
theorem set_lastP (Ps : List Pr) (P Q : Pr) : (Ps ++ [P]).set Ps.length Q = Ps ++ [Q] := by simp

/-- What worker a holds of the first k locks. -/
def heldL (f : Nat → Int) (a : Nat) (k : Nat) : List Nat := (List.range k).filter fun i => f i == (a : Int)
theorem heldL_le (f : Nat → Int) (a k : Nat) : (heldL f a k).length ≤ k := by
  have := List.length_filter_le (fun i => f i == (a : Int)) (List.range k)
  rw [List.length_range] at this; exact this
theorem heldL_yes {f : Nat → Int} {a k : Nat} (h : (f k == (a : Int)) = true) : heldL f a (k + 1) = heldL f a k ++ [k] := by
  unfold heldL; rw [List.range_succ, List.filter_append]; simp [h]
theorem heldL_no {f : Nat → Int} {a k : Nat} (h : (f k == (a : Int)) = false) : heldL f a (k + 1) = heldL f a k := by
  unfold heldL; rw [List.range_succ, List.filter_append]; simp [h]

set_option maxRecDepth 100000 in
set_option maxHeartbeats 1000000 in
theorem HeldH (j X m a : Nat) (f : Nat → Int) (q : Nat → Value) (w0 w : World) (Ps : List Pr) (h : Grommet.Own w0 w Ps) (hk : Ps[j]? = some (tabP X m f q)) (ha : a < m) :
    Calls Try.prog 13 #[tptr X, .int .i64 (a : Int)] w fun e w' => ∃ ad cap, e = .returned (.slice ad (heldL f a 70).length cap) ∧ Grommet.Own w0 w' (Ps ++ [rowP 3 1 (.slice ad (heldL f a 70).length cap) (heldL f a 70).length ((heldL f a 70).map iv)]) := by
  obtain ⟨i0, hi0, hz0, hz1, hz2⟩ := info_parts infoInt
  have HH := Lib.hid (fun wx (hx : TabIs wx X m f q) k hk => Holds_yes wx X m f q hx a k ha hk)
  have hA := Lib.hid hk
  have hO0 := Lib.hid (own_nilRow h 3 1)
  obtain ⟨L, hL⟩ : ∃ L, heldL f a 70 = L := ⟨_, rfl⟩
  obtain ⟨N, hN⟩ : ∃ N, L.length = N := ⟨_, rfl⟩
  rw [hL, hN]
  replace hL := Lib.hid hL
  replace hN := Lib.hid hN
  unfold tptr at HH ⊢
  clear h hk ha
  go_enter Try.func13, Try.ntmps13
  go_wp2_with fail
  go_loopw [5, 7] (fun p i wr => ∃ (k : Nat) (ad : Option Addr) (cap n : Nat), k ≤ 70 ∧ i = .int .i64 (k : Int) ∧ p = .slice ad n cap ∧ Hid (n = (heldL f a k).length) ∧ Hid (Grommet.Own w0 wr (Ps ++ [rowP 3 1 (.slice ad n cap) n ((heldL f a k).map iv)]))) (fun _ i _ => 70 - (intOf i).toNat)
  case atStart => exact ⟨0, none, 0, 0, Nat.zero_le _, rfl, rfl, Lib.hid rfl, hO0⟩
  case round =>
    clear hO0
    obtain ⟨k, ad, cap, n, hk, rfl, rfl, hn, hO⟩ := hrel
    have k0 : (0 : Int) ≤ (k : Int) := by omega
    by_cases hlt : k < 70
    · have hlt' : (k : Int) < 70 := by omega
      have wk : IntKind.i64.wrap ((k : Int) + 1) = (k : Int) + 1 := IntWalk.i64_in _ ⟨by omega, by omega⟩
      have hA2 : (Ps ++ [rowP 3 1 (.slice ad n cap) n ((heldL f a k).map iv)])[j]? = some (tabP X m f q) := by rw [List.getElem?_append_left (List.getElem?_eq_some_iff.1 hA.out).1]; exact hA.out
      have HC := Lib.hid (HH.out wr (hO.out.box j hA2) k hlt)
      have Hk := Lib.hid hlt
      clear hA2
      obtain ⟨b, hb⟩ : ∃ b, (f k == (a : Int)) = b := ⟨_, rfl⟩
      rw [hb] at HC
      cases b
      · have hs := Lib.hid (heldL_no hb)
        clear hb hlt hk
        go_wp2_with fail
        refine HC.out.mono ?_
        rintro e w2 ⟨rfl, rfl⟩
        clear HC
        go_wp2
        go_roundw
        case rel => exact ⟨k + 1, ad, cap, n, Hk.out, by go_num, rfl, Lib.hid (by rw [hs.out]; exact hn.out), Lib.hid (by rw [hs.out]; exact hO.out)⟩
        case measure => have := Hk.out; simp [intOf]; omega
      · have hs := Lib.hid (heldL_yes hb)
        have hle := heldL_le f a k
        rw [← hn.out] at hle
        have hrow := Grommet.Own.row hO.out Ps.length (lastP _ _)
        clear hb hlt hk
        go_wp2_with fail
        refine HC.out.mono ?_
        rintro e w2 ⟨rfl, rfl⟩
        clear HC
        go_wp2_with (at_builtin; refine wpList_append_blk _ rfl _ _ 30 rfl 0 3 i0 (.int .i64 0) 1 8 Try.underlying30 hi0 hz0 hz1 hz2 rfl (by decide) _ n ((heldL f a k).map iv) rfl (World.ownsRow.alloc hrow _) ⟨w2.heap.size, 0, none⟩ 1 1 [.int .i64 (k : Int)] rfl rfl (at_of_row (heap_alloc_new w2 _)).some ?a1 ?a2 ?a3 (Nat.zero_le _) ?_)
        case a1 => simp [Value.oneCell']
        case a2 => unfold maxLen; have := Hk.out; omega
        case a3 => have := Hk.out; omega
        intro ad5 cap5 w5 hrow5 hg5 hnew5
        have hrow5 : w5.ownsRow 0 3 1 (.slice ad5 (n + 1) cap5) (n + 1) ((heldL f a (k + 1)).map iv) := by rw [hs.out, List.map_append]; exact hrow5
        have hO5 := own_append (Grommet.Own.quiet hO.out (World.grownBy_alloc w2 (.cells #[.int .i64 (k : Int)] 3) none)) Ps.length (lastP _ _) hrow5 hg5 (fun g hg => by have := hnew5 g hg; rw [World.size_alloc]; exact this)
        have hO5 : Hid (Grommet.Own w0 w5 (Ps ++ [rowP 3 1 (.slice ad5 (n + 1) cap5) (n + 1) ((heldL f a (k + 1)).map iv)])) := Lib.hid (by rw [set_lastP] at hO5; exact hO5)
        have hn5 : Hid (n + 1 = (heldL f a (k + 1)).length) := Lib.hid (by rw [hs.out, List.length_append, ← hn.out]; rfl)
        obtain ⟨n', hn'⟩ : ∃ n', n + 1 = n' := ⟨_, rfl⟩
        rw [hn'] at hO5 hn5 ⊢
        clear hrow hrow5 hg5 hnew5 hO hn hle hn' hs
        go_wp2
        go_roundw
        case rel => exact ⟨k + 1, ad5, cap5, n', Hk.out, by go_num, rfl, hn5, hO5⟩
        case measure => have := Hk.out; simp [intOf]; omega
    · obtain rfl : k = 70 := by omega
      have hnn := hn.out
      rw [hL.out, hN.out] at hnn
      subst hnn
      have hO9 := hO.out
      rw [hL.out] at hO9
      clear hn hlt hk hO
      go_wp2
      go_ret
      exact ⟨ad, cap, rfl, hO9⟩
end Go.Proofs.Ytclicjdgkcnihaa
