/- Words that are owned; append onto them. -/
import Derived.Test.YtncikgciclfiaaaSumC
import Derived.StillTailTactics
namespace Go.Proofs.Ytncikgciclfiaaa
open Go.RowKit Go.Grommet

theorem Try.info26 : (Try.prog.info? 26).map (fun i => (i.zero, i.size, i.bytes)) = some (some (.int .u64 0), 1, 8) := by kernel_rfl

theorem wv_oneCell (xs : List Nat) : ∀ u ∈ xs.map wv, u.oneCell' = true := by
  intro u hu
  obtain ⟨_, _, rfl⟩ := List.mem_map.1 hu
  rfl

theorem app64 {w : World} {ops : Array Oper} {rest : List Oper} {o : Oper} {a : Act} {Q : Exit → Act → World → Prop} (hgd : o.guard = none) (s x : Operand)
    (ho : o.op = .call { callee := .builtin .append, args := #[s, x], argTypes := #[22, 22] })
    (base : Nat) (v : Value) (n : Nat) (xs : List Nat) (hs : a.eval s = v) (hown : w.ownsRow base 26 1 v n (xs.map wv))
    (ad : Option Addr) (m c : Nat) (ys : List Nat) (hx : a.eval x = .slice ad m c) (hw : Words w ad m ys) (hnil : ad = none → m = 0 ∧ c = 0)
    (hb : n + m ≤ 1099511627776) (hbase : base ≤ w.heap.size)
    (h : ∀ v' w', w'.ownsRow base 26 1 v' (n + m) ((xs ++ ys).map wv) → w.grownBy w' v.ownBlock → wpList Try.prog ops Q rest (a.put o.dst v') w') : wpList Try.prog ops Q (o :: rest) a w := by
  obtain ⟨i0, hi, hz0, hz1, hz2⟩ := info_parts Try.info26
  refine wpList_append_at hgd s x 22 ho base 26 i0 (.int .u64 0) 8 Try.underlying22 hi hz0 hz1 hz2 rfl v n (xs.map wv) hs hown ad m c (ys.map wv) hx (by rw [List.length_map, hw.len]) hw.at_ hnil (wv_oneCell ys) (by unfold maxLen; omega) (by omega) hbase ?_
  intro v' w' ho' hg
  exact h v' w' (by rw [List.map_append]; exact ho') hg

/-- An empty literal. -/
theorem own_lit (w : World) (base : Nat) (hb : base ≤ w.heap.size) : (w.alloc (.cells #[] 26)).ownsRow base 26 1 (.slice (some ⟨w.heap.size, 0, none⟩) 0 0) 0 (([] : List Nat).map wv) :=
  World.ownsRow_lit (size := 1) (base := base) (e := 26) w #[] 0 hb (by unfold maxLen; omega) (by simp)

theorem words_of_own {w : World} {base n : Nat} {v : Value} {xs : List Nat} (h : w.ownsRow base 26 1 v n (xs.map wv)) (hx : ∀ k ∈ xs, k < 18446744073709551616) (hn : n ≤ 140737488351232) :
    ∃ ad cap, v = .slice ad n cap ∧ Words w ad n xs ∧ (ad = none → n = 0 ∧ cap = 0) ∧ n ≤ cap ∧ (∀ g, v.ownBlock = some g → base ≤ g) := by
  obtain ⟨ad, cap, he, ha, hnil, hc, hb⟩ := owns_slice h
  refine ⟨ad, cap, he, ⟨?_, hx, ha, hn⟩, hnil, hc, hb⟩
  have := h.1
  simpa using this

theorem own_pos {w : World} {base e n : Nat} {v : Value} {xs : List Value} (h : w.ownsRow base e 1 v n xs) (hn : 0 < n) : ∃ g cap, v = .slice (some ⟨g, 0, none⟩) n cap ∧ base ≤ g := by
  obtain ⟨hl, h | ⟨g, cap, cur, rfl, hb, _⟩⟩ := h
  · obtain ⟨rfl, rfl⟩ := h
    simp at hl; omega
  · exact ⟨g, cap, rfl, hb⟩

theorem RowIn.words {w : World} {a : Option Addr} {len cap : Nat} {zs : List Int} (h : RowIn .u64 w a len cap zs) : ∃ xs, Words w a len xs := by
  obtain ⟨xs, hl, hs, hat⟩ := h.nats
  exact ⟨xs, hl, hs, hat, h.small⟩
end Go.Proofs.Ytncikgciclfiaaa
