/- path.Split of any text. -/
import Derived.Test.YtljcmlcdamlbcaaPatIt
namespace Go.Proofs.Ytljcmlcdamlbcaa
open Go.RowKit Go.Grommet Go.Shelf
attribute [local go_sem] Oper.semAt_some

theorem name_info : (Try.prog.info? 9).map (fun i => (i.zero, i.size, i.bytes)) = some (some (.string ⟨#[]⟩), 1, 16) := by kernel_rfl

/-- What Split has when it has gone through some pieces. -/
structure SplI (w : World) (B : Nat) (pre : List (List UInt8)) (W : World) : Prop where
  r0 : W.heap[B]? = some (.cells #[.slice none 0 0] 22 (0, 0))
  r1 : W.heap[B + 1]? = some (.cells #[.int .i64 0] 24 (0, 0))
  l : ∃ ad cap, W.heap[B + 2]? = some (.cells #[.slice ad pre.length cap] 22 (0, 0)) ∧ W.ownsRow (B + 4) 9 1 (.slice ad pre.length cap) pre.length (pre.map sv)
  grown : w.grownBy W none
  size : B + 4 ≤ W.heap.size
  may : ∀ x ∈ pre, mayP x = true
/-- What it has when a piece is no name. -/
structure SplX (w : World) (B : Nat) (c : Code) (pre : List (List UInt8)) (W : World) : Prop where
  code : c = .ret
  r0 : W.heap[B]? = some (.cells #[.slice none 0 0] 22 (0, 0))
  r1 : W.heap[B + 1]? = some (.cells #[.int .i64 13] 24 (0, 0))
  grown : w.grownBy W none
  size : B + 4 ≤ W.heap.size
  bad : ∃ x ∈ pre, mayP x = false

theorem SplI.own {w : World} {B : Nat} (hB : w.heap.size = B) : OwnFrom (B + 4) (SplI w B) := by
  intro s W W' row hs hgr hr
  have hb : ∀ k, k < B + 4 → W'.heap[k]? = W.heap[k]? := fun k hk => hgr.block _ (by have := hs.size; omega) (by intro e; have := (hr _ e.symm).1; omega)
  obtain ⟨ad, cap, h1, h2⟩ := hs.l
  refine ⟨(hb _ (by omega)).trans hs.r0, (hb _ (by omega)).trans hs.r1, ⟨ad, cap, (hb _ (by omega)).trans h1, Turn.row (F := fun i => row = some i) (Turn.of hgr (fun i e => e)) h2 (fun g hg he => ?_)⟩, grown_new hs.grown hgr (fun j e => by have := (hr j e).1; omega), Nat.le_trans hs.size hgr.size, hs.may⟩
  obtain ⟨cur, hc⟩ := row_type h2 g hg
  obtain ⟨_, o, ho, hn⟩ := hr g he
  rw [hc] at ho
  cases ho
  cases hn
theorem SplX.own {w : World} {B : Nat} (hB : w.heap.size = B) (c : Code) : OwnFrom (B + 4) (SplX w B c) := by
  intro s W W' row hs hgr hr
  have hb : ∀ k, k < B + 4 → W'.heap[k]? = W.heap[k]? := fun k hk => hgr.block _ (by have := hs.size; omega) (by intro e; have := (hr _ e.symm).1; omega)
  exact ⟨hs.code, (hb _ (by omega)).trans hs.r0, (hb _ (by omega)).trans hs.r1, grown_new hs.grown hgr (fun j e => by have := (hr j e).1; omega), Nat.le_trans hs.size hgr.size, hs.bad⟩
theorem SplI.iter {w A C : World} {B : Nat} {pre : List (List UInt8)} (hB : w.heap.size = B) (h : SplI w B pre A) (ho : OwB (B + 3) A C) : SplI w B pre C := by
  obtain ⟨v, rfl⟩ := ho
  have hg := grown_setCell A ⟨B + 3, 0, none⟩ v
  have hb : ∀ k, k < B + 3 → (A.setCell ⟨B + 3, 0, none⟩ v).heap[k]? = A.heap[k]? := fun k hk => hg.block _ (by have := h.size; omega) (by simp; omega)
  obtain ⟨ad, cap, h1, h2⟩ := h.l
  exact ⟨(hb _ (by omega)).trans h.r0, (hb _ (by omega)).trans h.r1, ⟨ad, cap, (hb _ (by omega)).trans h1, Turn.row (F := fun i => i = B + 3) (Turn.of hg (fun i e => by cases e; rfl)) h2 (fun g hg he => by have := (h2.lt g hg).1; omega)⟩, grown_new h.grown hg (fun j e => by cases e; show w.heap.size ≤ B + 3; omega), Nat.le_trans h.size hg.size, h.may⟩
theorem SplI.step {w W w2 : World} {B : Nat} {pre : List (List UInt8)} {x : List UInt8} {ad ad2 : Option Addr} {cap cap2 : Nat} (h : SplI w B pre W) (hB : w.heap.size = B)
    (hr : W.ownsRow (B + 4) 9 1 (.slice ad pre.length cap) pre.length (pre.map sv)) (hl : W.heap[B + 2]? = some (.cells #[.slice ad pre.length cap] 22 (0, 0)))
    (hg : (W.alloc (.cells #[.string (str x)] 9)).grownBy w2 (Value.slice ad pre.length cap).ownBlock) (hr2 : w2.ownsRow (B + 4) 9 1 (.slice ad2 (pre.length + 1) cap2) (pre.length + 1) (pre.map sv ++ [.string (str x)])) (hm : mayP x = true) :
    w2.heap[B + 2]? = some (.cells #[.slice ad pre.length cap] 22 (0, 0)) ∧
    KeepsOthers W (w2.setCell ⟨B + 2, 0, none⟩ (.slice ad2 (pre.length + 1) cap2)) ∧ KeptB (B + 3) W (w2.setCell ⟨B + 2, 0, none⟩ (.slice ad2 (pre.length + 1) cap2)) ∧ SplI w B (pre ++ [x]) (w2.setCell ⟨B + 2, 0, none⟩ (.slice ad2 (pre.length + 1) cap2)) := by
  have hsz := h.size
  have hA := World.grownBy_alloc W (.cells #[.string (str x)] 9) none
  have hlt : ∀ g, (Value.slice ad pre.length cap).ownBlock = some g → B + 4 ≤ g := fun g hg => (hr.lt g hg).1
  have h2 : ∀ k, k < B + 4 → w2.heap[k]? = W.heap[k]? := fun k hk => (hg.block k (by have := hA.size; omega) (fun e => by have := hlt k e.symm; omega)).trans (hA.block k (by omega) (by simp))
  have hs2 : B + 4 ≤ w2.heap.size := by have := hA.size; have := hg.size; omega
  have hg3 := grown_setCell w2 ⟨B + 2, 0, none⟩ (.slice ad2 (pre.length + 1) cap2)
  have h3 : ∀ k, k < B + 4 → k ≠ B + 2 → (w2.setCell ⟨B + 2, 0, none⟩ (.slice ad2 (pre.length + 1) cap2)).heap[k]? = W.heap[k]? := fun k hk hn => (hg3.block k (by omega) (by simpa using hn)).trans (h2 k hk)
  have hl2 := (h2 (B + 2) (by omega)).trans hl
  refine ⟨hl2, (KeepsOthers.alloc W _).trans ((KeepsOthers.of_grownBy hg (fun j o ej hj => ?_)).trans (KeepsOthers.setCell _ _ _)), h3 (B + 3) (by omega) (by omega), ?_⟩
  · obtain ⟨cur, hc⟩ := row_type (World.ownsRow.alloc hr _) j ej
    rw [hc] at hj
    cases hj
    rfl
  · refine ⟨(h3 B (by omega) (by omega)).trans h.r0, (h3 (B + 1) (by omega) (by omega)).trans h.r1, ⟨ad2, cap2, ?_, ?_⟩, ?_, Nat.le_trans hs2 hg3.size, fun y hy => ?_⟩
    · have := heap_setCell_at (o := 0) hl2 (.slice ad2 (pre.length + 1) cap2)
      rw [List.length_append, List.length_singleton]
      simpa using this
    · rw [List.length_append, List.length_singleton, List.map_append]
      exact Turn.row (F := fun i => i = B + 2) (Turn.of hg3 (fun i e => by cases e; rfl)) hr2 (fun g hg he => by have := (hr2.lt g hg).1; omega)
    · exact grown_new (grown_new (grown_trans h.grown hA) hg (fun j e => by have := hlt j e; omega)) hg3 (fun j e => by cases e; show w.heap.size ≤ B + 2; omega)
    · rcases List.mem_append.1 hy with hy | hy
      · exact h.may y hy
      · rw [List.mem_singleton.1 hy]; exact hm

theorem ab_cell {B : Nat} {w w' : World} (h : AllBut B w w') {a : Addr} {u : Value} (hc : w.cell? a = some u) : w'.cell? a = some u := by
  unfold World.cell? at hc ⊢
  rcases hb : w.heap[a.block]? with _ | o
  · rw [hb] at hc; cases hc
  · cases o with
    | cells cs T f => rw [hb] at hc; rw [h.cells _ _ _ _ hb]; exact hc
    | _ => rw [hb] at hc; cases hc
theorem split_end {w w' : World} {v : Value} {e : Int} (hw : AllBut w.heap.size ((w.alloc (.cells #[v] 22)).alloc (.cells #[.int .i64 e] 24)) w') :
    w'.cell? ⟨w.heap.size, 0, none⟩ = some v ∧ w'.cell? ⟨w.heap.size + 1, 0, none⟩ = some (.int .i64 e) ∧ w.grownBy w' none := by
  have g1 := World.grownBy_alloc w (.cells #[v] 22) none
  have g2 := World.grownBy_alloc (w.alloc (.cells #[v] 22)) (.cells #[.int .i64 e] 24) none
  have b0 := (g2.block _ (by simp) (by simp)).trans (heap_alloc_new w (.cells #[v] 22))
  have b1 := heap_alloc_new (w.alloc (.cells #[v] 22)) (.cells #[.int .i64 e] 24)
  rw [World.size_alloc] at b1
  have g := grown_trans g1 g2
  clear g1 g2
  generalize (w.alloc (.cells #[v] 22)).alloc (.cells #[.int .i64 e] 24) = W at *
  exact ⟨ab_cell hw (by simp [World.cell?, b0]), ab_cell hw (by simp [World.cell?, b1]), AllBut.grown (Nat.le_refl _) g hw⟩
theorem split_start {w w2 : World} {B : Nat} {s : ByteArray} (hB : w.heap.size = B) (h : w2 = (((w.alloc (.cells #[.slice none 0 0] 22)).alloc (.cells #[.int .i64 0] 24)).alloc (.cells #[.slice none 0 0] 22)).alloc (.cells #[.string s] 9)) :
    SplI w B [] w2 ∧ w2.heap[B + 3]? = some (.cells #[.string s] 9 (0, 0)) ∧ w2.heap.size = B + 4 := by
  subst hB
  obtain ⟨w1, h1⟩ : ∃ w1, w.alloc (.cells #[.slice none 0 0] 22) = w1 := ⟨_, rfl⟩
  obtain ⟨w3, h3⟩ : ∃ w3, w1.alloc (.cells #[.int .i64 0] 24) = w3 := ⟨_, rfl⟩
  obtain ⟨w4, h4⟩ : ∃ w4, w3.alloc (.cells #[.slice none 0 0] 22) = w4 := ⟨_, rfl⟩
  rw [h1, h3, h4] at h
  have s1 : w1.heap.size = w.heap.size + 1 := by rw [← h1, World.size_alloc]
  have s3 : w3.heap.size = w.heap.size + 2 := by rw [← h3, World.size_alloc, s1]
  have s4 : w4.heap.size = w.heap.size + 3 := by rw [← h4, World.size_alloc, s3]
  have s2 : w2.heap.size = w.heap.size + 4 := by rw [h, World.size_alloc, s4]
  have g1 : w.grownBy w1 none := by rw [← h1]; exact World.grownBy_alloc _ _ _
  have g3 : w1.grownBy w3 none := by rw [← h3]; exact World.grownBy_alloc _ _ _
  have g4 : w3.grownBy w4 none := by rw [← h4]; exact World.grownBy_alloc _ _ _
  have g2 : w4.grownBy w2 none := by rw [h]; exact World.grownBy_alloc _ _ _
  have b0 : w1.heap[w.heap.size]? = some (.cells #[.slice none 0 0] 22 (0, 0)) := by rw [← h1]; exact heap_alloc_new _ _
  have b1 : w3.heap[w.heap.size + 1]? = some (.cells #[.int .i64 0] 24 (0, 0)) := by rw [← h3, ← s1]; exact heap_alloc_new _ _
  have b2 : w4.heap[w.heap.size + 2]? = some (.cells #[.slice none 0 0] 22 (0, 0)) := by rw [← h4, ← s3]; exact heap_alloc_new _ _
  have b3 : w2.heap[w.heap.size + 3]? = some (.cells #[.string s] 9 (0, 0)) := by rw [h, ← s4]; exact heap_alloc_new _ _
  exact ⟨⟨((grown_trans (grown_trans g3 g4) g2).block _ (by omega) (by simp)).trans b0, ((grown_trans g4 g2).block _ (by omega) (by simp)).trans b1, ⟨none, 0, (g2.block _ (by omega) (by simp)).trans b2, ⟨rfl, .inl ⟨rfl, rfl⟩⟩⟩, grown_trans (grown_trans g1 g3) (grown_trans g4 g2), by omega, by simp⟩, b3, s2⟩
theorem split_res {w' : World} {tmps : Array Value} {A B : Nat} {v u : Value} (h2 : tmps.getD 2 undef = .pointer (some ⟨A, 0, none⟩)) (h3 : tmps.getD 3 undef = .pointer (some ⟨B, 0, none⟩)) (c0 : w'.cell? ⟨A, 0, none⟩ = some v) (c1 : w'.cell? ⟨B, 0, none⟩ = some u) :
    (results Try.f7 tmps).run Try.prog w' = .ok (.tuple #[v, u]) w' := by
  have h2' : tmps[2]?.getD undef = .pointer (some ⟨A, 0, none⟩) := by simpa using h2
  have h3' : tmps[3]?.getD undef = .pointer (some ⟨B, 0, none⟩) := by simpa using h3
  simp [results, Try.results7, h2', h3', asAddr, go_sem, c0, c1]
theorem toListB (s : ByteArray) : s.toList = bytesOf s := ByteArray.toList_eq s

set_option maxRecDepth 100000 in
set_option maxHeartbeats 1000000 in
theorem Split_long (s : ByteArray) (w : World) (h : 200 < s.size) : Calls Try.prog 7 #[.string s] w (SplitIs w (bytesOf s)) := by
  have HB := Lib.hid (splitB_long (t := bytesOf s) (by rw [length_bytesOf]; exact h))
  obtain ⟨n, hn⟩ : ∃ n, s.size = n := ⟨_, rfl⟩
  have c1' : (200 : Int) < (n : Int) := by omega
  clear h
  refine (callsIn_wide (n := 9)).1 ?_
  refine callsIn_of_wp_marks Try.func7 rfl trivial ?_ rfl
  simp only [Try.ntmps7, List.size_toArray, List.length_cons, List.length_nil, Nat.reduceAdd, Nat.reduceSub, Array.replicate_succ, Array.replicate_zero, List.push_toArray, List.append_toArray, List.nil_append, List.cons_append]
  gi_wp2
  refine leaves_marks (B := w.heap.size) [] 0 _ trivial ?_
  intro w' hw'
  obtain ⟨c0, c1, hg⟩ := split_end hw'
  exact ⟨_, split_res rfl rfl c0 c1, splitIs_no HB.out hg⟩
set_option maxRecDepth 100000 in
set_option maxHeartbeats 1000000 in
theorem Split_empty (s : ByteArray) (w : World) (h : s.size = 0) : Calls Try.prog 7 #[.string s] w (SplitIs w (bytesOf s)) := by
  have HB := Lib.hid (splitB_head (t := bytesOf s) (by rw [show bytesOf s = [] from List.eq_nil_of_length_eq_zero (by rw [length_bytesOf]; exact h)]; simp))
  have q0 : s.toList.isEmpty = true := by rw [toListB, List.isEmpty_iff]; exact List.eq_nil_of_length_eq_zero (by rw [length_bytesOf]; exact h)
  obtain ⟨n, hn⟩ : ∃ n, s.size = n := ⟨_, rfl⟩
  have c1' : ¬ (200 : Int) < (n : Int) := by omega
  clear h
  refine (callsIn_wide (n := 9)).1 ?_
  refine callsIn_of_wp_marks Try.func7 rfl trivial ?_ rfl
  simp only [Try.ntmps7, List.size_toArray, List.length_cons, List.length_nil, Nat.reduceAdd, Nat.reduceSub, Array.replicate_succ, Array.replicate_zero, List.push_toArray, List.append_toArray, List.nil_append, List.cons_append]
  gi_wp2
  refine leaves_marks (B := w.heap.size) [] 0 _ trivial ?_
  intro w' hw'
  obtain ⟨c0, c1, hg⟩ := split_end hw'
  exact ⟨_, split_res rfl rfl c0 c1, splitIs_no HB.out hg⟩
set_option maxRecDepth 100000 in
set_option maxHeartbeats 1000000 in
theorem Split_head (s : ByteArray) (w : World) (b : UInt8) (T : List UInt8) (hb : bytesOf s = b :: T) (h : s.size ≤ 200) (hne : b ≠ 47) : Calls Try.prog 7 #[.string s] w (SplitIs w (bytesOf s)) := by
  obtain ⟨n, hn⟩ : ∃ n, s.size = n := ⟨_, rfl⟩
  have q0 : s.toList.isEmpty = false := by rw [toListB, hb]; rfl
  have hl := length_bytesOf s
  rw [hb, List.length_cons] at hl
  have n0 : 0 < s.size := by omega
  have hix := byte_getD s 0 n0
  rw [hb, List.getD_cons_zero] at hix
  have c1' : ¬ (200 : Int) < (n : Int) := by omega
  have c2' : (0 : Int) < (n : Int) := by omega
  have HB := Lib.hid (splitB_head (t := bytesOf s) (by rw [hb]; intro e; exact hne (by simpa using e)))
  have q1 : (((b.toNat : Int)) != 47) = true := by
    rw [bne_iff_ne]
    intro e
    exact hne (UInt8.toNat_inj.1 (by show b.toNat = 47; omega))
  clear h hl hne hb
  refine (callsIn_wide (n := 9)).1 ?_
  refine callsIn_of_wp_marks Try.func7 rfl trivial ?_ rfl
  simp only [Try.ntmps7, List.size_toArray, List.length_cons, List.length_nil, Nat.reduceAdd, Nat.reduceSub, Array.replicate_succ, Array.replicate_zero, List.push_toArray, List.append_toArray, List.nil_append, List.cons_append]
  gi_wp2
  refine leaves_marks (B := w.heap.size) [] 0 _ trivial ?_
  intro w' hw'
  obtain ⟨c0, c1, hg⟩ := split_end hw'
  exact ⟨_, split_res rfl rfl c0 c1, splitIs_no HB.out hg⟩
set_option maxRecDepth 100000 in
set_option maxHeartbeats 1000000 in
theorem Split_root (s : ByteArray) (w : World) (hb : bytesOf s = [47]) : Calls Try.prog 7 #[.string s] w (SplitIs w (bytesOf s)) := by
  obtain ⟨n, hn⟩ : ∃ n, s.size = n := ⟨_, rfl⟩
  have q0 : s.toList.isEmpty = false := by rw [toListB, hb]; rfl
  have hl := length_bytesOf s
  rw [hb, List.length_cons, List.length_nil] at hl
  have n0 : 0 < s.size := by omega
  have hix := byte_getD s 0 n0
  rw [hb, List.getD_cons_zero] at hix
  have c1' : ¬ (200 : Int) < (n : Int) := by omega
  have c2' : (0 : Int) < (n : Int) := by omega
  have q2 : (s.toList == [47]) = true := by rw [toListB, hb]; rfl
  have HB := Lib.hid hb
  clear hl hb
  refine (callsIn_wide (n := 9)).1 ?_
  refine callsIn_of_wp_marks Try.func7 rfl trivial ?_ rfl
  simp only [Try.ntmps7, List.size_toArray, List.length_cons, List.length_nil, Nat.reduceAdd, Nat.reduceSub, Array.replicate_succ, Array.replicate_zero, List.push_toArray, List.append_toArray, List.nil_append, List.cons_append]
  gi_wp2
  refine leaves_marks (B := w.heap.size) [] 0 _ trivial ?_
  intro w' hw'
  obtain ⟨c0, c1, hg⟩ := split_end hw'
  exact ⟨_, split_res rfl rfl c0 c1, by rw [HB.out]; exact splitIs_root hg⟩
set_option maxRecDepth 100000 in
set_option maxHeartbeats 1000000 in
theorem Split_cons (s : ByteArray) (w : World) (T : List UInt8) (hb : bytesOf s = 47 :: T) (h : s.size ≤ 200) (hT : T ≠ []) : Calls Try.prog 7 #[.string s] w (SplitIs w (bytesOf s)) := by
  obtain ⟨n, hn⟩ : ∃ n, s.size = n := ⟨_, rfl⟩
  have q0 : s.toList.isEmpty = false := by rw [toListB, hb]; rfl
  have hl := length_bytesOf s
  rw [hb, List.length_cons] at hl
  have n0 : 0 < s.size := by omega
  have hix := byte_getD s 0 n0
  rw [hb, List.getD_cons_zero] at hix
  have c1' : ¬ (200 : Int) < (n : Int) := by omega
  have c2' : (0 : Int) < (n : Int) := by omega
  have q2 : (s.toList == [47]) = false := by rw [toListB, hb, beq_eq_false_iff_ne]; intro e; exact hT (List.cons.inj e).2
  have x1 : s.extract 1 n = str T := by
    rw [← str_bytesOf s, hb, extract_str]
    congr 1
    show T.take (n - 1) = T
    exact List.take_of_length_le (by omega)
  have Hb := Lib.hid (show bytesOf s = 47 :: T ∧ T.length < 200 ∧ T ≠ [] from ⟨hb, by omega, hT⟩)
  have c3' : (1 : Int) ≤ (n : Int) := by omega
  have c4' : (n : Int) ≤ 200 := by omega
  have e1 : ((w.alloc (.cells #[.slice none 0 0] 22)).alloc (.cells #[.int .i64 0] 24)).heap.size = w.heap.size + 2 := by simp
  have e2 : (((w.alloc (.cells #[.slice none 0 0] 22)).alloc (.cells #[.int .i64 0] 24)).alloc (.cells #[.slice none 0 0] 22)).heap.size = w.heap.size + 3 := by simp
  have HM := Lib.hid (fun (x : List UInt8) wx => May_any (str x) wx)
  clear h hb hl hT
  refine (callsIn_wide (n := 9)).1 ?_
  refine callsIn_of_wp_marks Try.func7 rfl trivial ?_ rfl
  simp only [Try.ntmps7, List.size_toArray, List.length_cons, List.length_nil, Nat.reduceAdd, Nat.reduceSub, Array.replicate_succ, Array.replicate_zero, List.push_toArray, List.append_toArray, List.nil_append, List.cons_append]
  gi_wp2_with fail
  refine ⟨trivial, (callsIn_wide.2 (pieces_any _ _)).mono ?_⟩
  rintro e w2 ⟨rfl, hw2⟩
  obtain ⟨hC, hbox, hs2⟩ := split_start rfl hw2
  clear hw2
  gi_wp2_with fail
  try rw [e2]
  try simp only [Nat.add_assoc, Nat.reduceAdd]
  clear e1 e2
  generalize hB : w.heap.size = B at *
  refine wpIn_range_seq (α := List UInt8) rfl (by omega) (gf := 36) (lb := #[.pointer (some ⟨B + 3, 0, none⟩)]) rfl trivial (enters_of Try.func36 (by kernel_rfl) rfl) (encs := encP) (Phi := fun _ _ => True)
    (pieces_stops 8 w2 (B + 3) T hbox (by have := Hb.out.2.1; omega)) (fun A C h => by obtain ⟨v, rfl⟩ := h; exact KeepsOthers.setCell _ _ _) (fun h k => h.trans k) (KeptB.put (by omega)) (Below.refl _ _) (fun _ => rfl)
    (SplI w B) (SplX w B) (by rw [hs2]; exact SplI.own hB) (fun c => by rw [hs2]; exact SplX.own hB c) (fun pre A C h ho => h.iter hB ho) (fun _ _ _ => trivial) hC
    (fun x => { tmps := #[.string s, undef, .pointer (some ⟨B, 0, none⟩), .pointer (some ⟨B + 1, 0, none⟩), .pointer (some ⟨B + 2, 0, none⟩), .string (str x), .string s, .int .i64 (n : Int), .bool false, .bool false, .string s, .bool false, .bool false, .bool false, .string s, .int .u8 47, .bool false, .bool false, .string s, .bool false, .string s, .string (str T), .func (.func 36) #[] #[.pointer (some ⟨B + 3, 0, none⟩)], .string (str x), undef, undef, undef, undef, undef, undef, undef, undef], defers := [] }) ?assign ?body ?done ?stop
  case assign =>
    intro l x W K hK
    unfold encP
    gi_wp2
    exact hK
  case body =>
    rintro l pre x W hL hlen
    obtain ⟨ad, cap, hl, hr⟩ := hL.l
    have hsz := hL.size
    have HMx := Lib.hid (HM.out x W)
    have r0 := hL.r0
    have r1 := hL.r1
    have d0 : W.cell? ⟨B, 0, none⟩ = some (.slice none 0 0) := by simp [World.cell?, r0]
    have d1 : W.cell? ⟨B + 1, 0, none⟩ = some (.int .i64 0) := by simp [World.cell?, r1]
    have d2 : W.cell? ⟨B + 2, 0, none⟩ = some (.slice ad pre.length cap) := by simp [World.cell?, hl]
    have z0 : W.frozen? ⟨B, 0, none⟩ = false := by simp [World.frozen?, r0]
    have z1 : W.frozen? ⟨B + 1, 0, none⟩ = false := by simp [World.frozen?, r1]
    rw [show mayN (str x) = mayP x from rfl] at HMx
    cases hm : mayP x with
    | false =>
      rw [hm] at HMx
      have HFIN := Lib.hid (show KeepsOthers W ((W.setCell ⟨B, 0, none⟩ (.slice none 0 0)).setCell ⟨B + 1, 0, none⟩ (.int .i64 13)) ∧ SplX w B .ret (pre ++ [x]) ((W.setCell ⟨B, 0, none⟩ (.slice none 0 0)).setCell ⟨B + 1, 0, none⟩ (.int .i64 13)) from by
        have g1 := grown_setCell W ⟨B, 0, none⟩ (.slice none 0 0)
        have g2 := grown_setCell (W.setCell ⟨B, 0, none⟩ (.slice none 0 0)) ⟨B + 1, 0, none⟩ (.int .i64 13)
        refine ⟨(KeepsOthers.setCell _ _ _).trans (KeepsOthers.setCell _ _ _), rfl, ?_, ?_, ?_, Nat.le_trans hsz (Nat.le_trans g1.size g2.size), x, by simp, hm⟩
        · refine (g2.block B (by have := g1.size; omega) (by simp)).trans ?_
          have := heap_setCell_at (o := 0) r0 (.slice none 0 0)
          simpa using this
        · have h1 := (g1.block (B + 1) (by omega) (by simp)).trans r1
          have := heap_setCell_at (o := 0) h1 (.int .i64 13)
          simpa using this
        · exact grown_new (grown_new hL.grown g1 (fun j e => by cases e; show w.heap.size ≤ B; omega)) g2 (fun j e => by cases e; show w.heap.size ≤ B + 1; omega))
      have f1 : (W.setCell ⟨B, 0, none⟩ (.slice none 0 0)).cell? ⟨B + 1, 0, none⟩ = some (.int .i64 0) := (grown_setCell W ⟨B, 0, none⟩ (.slice none 0 0)).cell d1 (by simp)
      clear hl hr hL hlen r0 r1 d2
      gi_wp2_with fail
      refine ⟨trivial, (CallsIn.inRound l (callsIn_wide.2 HMx.out)).mono ?_⟩
      rintro e w3 ⟨rfl, rfl⟩
      gi_wp2
      exact HFIN.out
    | true =>
      rw [hm] at HMx
      have hle : pre.length ≤ 200 := by have := Hb.out.2.1; omega
      have HST := Lib.hid (fun (w2 : World) (ad2 : Option Addr) (cap2 : Nat) hg hr2 => SplI.step (w2 := w2) (ad2 := ad2) (cap2 := cap2) hL hB hr hl hg hr2 hm)
      obtain ⟨i0, hi, hz0, hz1, hz2⟩ := info_parts name_info
      generalize hxs : pre.map sv = xs at *
      generalize hn' : pre.length = k at *
      clear hL hlen r0 r1 d0 d1 z0 z1 hl
      gi_wp2_with fail
      refine ⟨trivial, (CallsIn.inRound l (callsIn_wide.2 HMx.out)).mono ?_⟩
      rintro e w3 ⟨rfl, rfl⟩
      gi_wp2_with (gi_at_builtin; refine wpListIn_append_own _ rfl _ _ 22 rfl (B + 4) 9 i0 (.string ⟨#[]⟩) 1 16 Try.underlying22 hi hz0 hz1 hz2 rfl (by decide) _ k xs rfl (World.ownsRow.alloc hr _) ⟨w3.heap.size, 0, none⟩ 1 1 [.string (str x)] rfl rfl ?c1 ?c2 ?c3 ?c4 ?c5 ?_)
      case c1 => exact (at_of_row (heap_alloc_new w3 _)).some
      case c2 => intro u hu; simp at hu; subst hu; rfl
      case c3 => unfold maxLen; omega
      case c4 => omega
      case c5 => simp; omega
      intro v2 w4 hr4 hg4 _
      obtain ⟨ad2, cap2, rfl, _⟩ := row_slice hr4
      obtain ⟨hl4, hst⟩ := HST.out w4 ad2 cap2 hg4 hr4
      have HS2 := Lib.hid hst
      have d4 : w4.cell? ⟨B + 2, 0, none⟩ = some (.slice ad k cap) := by simp [World.cell?, hl4]
      have z4 : w4.frozen? ⟨B + 2, 0, none⟩ = false := by simp [World.frozen?, hl4]
      clear hst HST hl4 hr4 hg4 hr
      gi_wp2
      exact HS2.out
  case done =>
    intro D ys W hD hys hL hK
    subst hys
    obtain ⟨ad, cap, hl, hr⟩ := hL.l
    have hsz := hL.size
    have r0 := hL.r0
    have r1 := hL.r1
    have d0 : W.cell? ⟨B, 0, none⟩ = some (.slice none 0 0) := by simp [World.cell?, r0]
    have d1 : W.cell? ⟨B + 1, 0, none⟩ = some (.int .i64 0) := by simp [World.cell?, r1]
    have d2 : W.cell? ⟨B + 2, 0, none⟩ = some (.slice ad (pcs T).length cap) := by simp [World.cell?, hl]
    have z0 : W.frozen? ⟨B, 0, none⟩ = false := by simp [World.frozen?, r0]
    obtain ⟨m, hm⟩ : ∃ m, (pcs T).length = m := ⟨_, rfl⟩
    rw [hm] at d2
    obtain ⟨W1, hW1⟩ : ∃ W1, W.setCell ⟨B, 0, none⟩ (.slice ad m cap) = W1 := ⟨_, rfl⟩
    obtain ⟨W2, hW2⟩ : ∃ W2, W1.setCell ⟨B + 1, 0, none⟩ (.int .i64 0) = W2 := ⟨_, rfl⟩
    have g1 : W.grownBy W1 (some B) := by rw [← hW1]; exact grown_setCell W ⟨B, 0, none⟩ _
    have g2 : W1.grownBy W2 (some (B + 1)) := by rw [← hW2]; exact grown_setCell W1 ⟨B + 1, 0, none⟩ _
    have f1 : W1.cell? ⟨B + 1, 0, none⟩ = some (.int .i64 0) := g1.cell d1 (by simp)
    have b1 : W1.heap[B + 1]? = some (.cells #[.int .i64 0] 24 (0, 0)) := (g1.block (B + 1) (by omega) (by simp)).trans r1
    have y1 : W1.frozen? ⟨B + 1, 0, none⟩ = false := by simp [World.frozen?, b1]
    have k0 : W2.cell? ⟨B, 0, none⟩ = some (.slice ad m cap) := by
      have h1 : W1.heap[B]? = some (.cells #[.slice ad m cap] 22 (0, 0)) := by
        have := heap_setCell_at (o := 0) r0 (.slice ad m cap)
        rw [hW1] at this
        simpa using this
      have := (g2.block B (by have := g1.size; omega) (by simp)).trans h1
      simp [World.cell?, this]
    have k1 : W2.cell? ⟨B + 1, 0, none⟩ = some (.int .i64 0) := by
      have := heap_setCell_at (o := 0) b1 (.int .i64 0)
      rw [hW2] at this
      simp [World.cell?, this]
    have hK2 : W2.heap[D]? = some (.deferred (some [])) := (g2.block D (by have := g1.size; have := (Array.getElem?_eq_some_iff.1 hK).1; omega) (by simp; omega)).trans ((g1.block D ((Array.getElem?_eq_some_iff.1 hK).1) (by simp; omega)).trans hK)
    have hAt : At W2 ad ((pcs T).map sv) := by
      obtain ⟨ad', cap', he, ha, _⟩ := at_of_owns hr
      cases he
      have hlt := fun a e => (hr.lt a e).1
      refine (ha.grown g1 (fun a e hne => ?_)).grown g2 (fun a e hne => ?_)
      · obtain ⟨g, o, cp, hh⟩ := owns_slice hr
        have := hlt a.block (by subst e; simp [Value.ownBlock] at hh ⊢)
        simp; omega
      · have := hlt a.block (by subst e; simp [Value.ownBlock])
        simp; omega
    have HE := Lib.hid (show ∀ w', AllBut B W2 w' → ∃ v, (∃ A C, v = Value.tuple #[A, C] ∧ w'.cell? ⟨B, 0, none⟩ = some A ∧ w'.cell? ⟨B + 1, 0, none⟩ = some C) ∧ SplitIs w (bytesOf s) (.returned v) w' from fun w' hw' => by
      refine ⟨_, ⟨_, _, rfl, ab_cell hw' k0, ab_cell hw' k1⟩, ?_⟩
      rw [Hb.out.1]
      refine splitIs_yes Hb.out.2.1 Hb.out.2.2 hL.may ⟨ad, cap, by rw [hm], ?_⟩ (AllBut.grown (by omega) (grown_new (grown_new hL.grown g1 (fun j e => by cases e; omega)) g2 (fun j e => by cases e; omega)) hw')
      intro j u hu
      obtain ⟨g, o, he, hc⟩ := hAt j u hu
      exact ⟨g, o, he, ab_cell hw' hc⟩)
    clear hL hl hr r0 r1 g1 g2 k0 k1 hAt b1 hsz
    rw [← hW1] at f1 y1
    replace hW1 := Lib.hid hW1
    replace hW2 := Lib.hid hW2
    gi_wp2
    try rw [hW1.out]
    try rw [hW2.out]
    refine leaves_marks (B := B) [{ target := .collected D, args := #[] }] (D + 1) W2 ⟨D, rfl, by omega, by omega, hK2, trivial⟩ ?_
    intro w' hw'
    obtain ⟨v, ⟨A, C, rfl, c0, c1⟩, hfin⟩ := HE.out w' hw'
    exact ⟨_, split_res rfl rfl c0 c1, hfin⟩
  case stop =>
    intro D c pre W hD hSp hX hK
    obtain rfl := hX.code
    have hsz := hX.size
    have r0 := hX.r0
    have r1 := hX.r1
    have hg := hX.grown
    have HN : Hid (splitB (bytesOf s) = false) := Lib.hid (by
      obtain ⟨x, hx, hm⟩ := hX.bad
      obtain ⟨r, er⟩ := hSp
      rw [Hb.out.1]
      exact splitB_bad Hb.out.2.1 Hb.out.2.2 (by rw [er]; exact List.mem_append_left _ hx) hm)
    clear hX hSp
    gi_wp2
    refine leaves_marks (B := B) _ (D + 1) W ⟨D, rfl, by omega, by omega, hK, trivial⟩ ?_
    intro w' hw'
    have c0 : w'.cell? ⟨B, 0, none⟩ = some (.slice none 0 0) := ab_cell hw' (by simp [World.cell?, r0])
    have c1 : w'.cell? ⟨B + 1, 0, none⟩ = some (.int .i64 13) := ab_cell hw' (by simp [World.cell?, r1])
    exact ⟨_, split_res rfl rfl c0 c1, splitIs_no HN.out (AllBut.grown (by omega) hg hw')⟩

theorem Split_any (s : ByteArray) (w : World) : Calls Try.prog 7 #[.string s] w (SplitIs w (bytesOf s)) := by
  by_cases h : 200 < s.size
  · exact Split_long s w h
  · match hb : bytesOf s with
    | [] => rw [← hb]; exact Split_empty s w (by rw [← length_bytesOf, hb]; rfl)
    | b :: T =>
      rw [← hb]
      by_cases h1 : b = 47
      · subst h1
        by_cases h2 : T = []
        · subst h2; exact Split_root s w hb
        · exact Split_cons s w T hb (by omega) h2
      · exact Split_head s w b T hb (by omega) h1
end Go.Proofs.Ytljcmlcdamlbcaa
