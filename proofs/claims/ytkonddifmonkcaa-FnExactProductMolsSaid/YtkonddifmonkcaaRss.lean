/- Slices of slices of slices of integers. -/
import Derived.Test.YtkonddifmonkcaaRowk
import Derived.Test.YtkonddifmonkcaaRowc
import Derived.Test.YtkonddifmonkcaaRowo
namespace Go.Proofs.Ytkonddifmonkcaa
open Go.RowKit Go.Deep
set_option linter.unusedVariables false

/-- v reads as q. -/
def QAt (w : World) (v : Value) (q : List (List (List Int))) : Prop :=
  q.length ≤ 9223372036854775807 ∧ ∃ a cap, v = .slice a q.length cap ∧ q.length ≤ cap ∧ ∀ j, j < q.length → ∃ g off u, a = some ⟨g, off, none⟩ ∧ w.cell? ⟨g, off + j, none⟩ = some u ∧ RowsAt w u (q.getD j [])
theorem QAt.drewN {w : World} {v : Value} {q : List (List (List Int))} (h : QAt w v q) (n : Nat) : QAt (w.drewN n) v q := h
theorem QAt.below {w w' : World} {B : Nat} {v : Value} {q : List (List (List Int))} (h : QAt w v q) (hb : Below B w w') (hs : w.heap.size ≤ B) : QAt w' v q := by
  obtain ⟨h1, a, cap, e, hk, hc⟩ := h
  refine ⟨h1, a, cap, e, hk, fun j hj => ?_⟩
  obtain ⟨g, off, u, h2, h3, h4⟩ := hc j hj
  have := World.block_lt_of_cell? w _ h3
  exact ⟨g, off, u, h2, (hb.cell (p := ⟨g, off + j, none⟩) (Nat.lt_of_lt_of_le this hs)).trans h3, h4.below hb hs⟩
theorem QAt.nil (w : World) (a : Option Addr) (cap : Nat) : QAt w (.slice a 0 cap) [] := ⟨by decide, a, cap, rfl, Nat.zero_le _, fun j hj => by simp at hj⟩
theorem QAt.shape {w : World} {v : Value} {q : List (List (List Int))} (h : QAt w v q) : ∃ a cap, v = .slice a q.length cap ∧ q.length ≤ cap ∧ ∀ j, j < q.length → ∃ g off u, a = some ⟨g, off, none⟩ ∧ g < w.heap.size ∧ w.cell? ⟨g, off + j, none⟩ = some u ∧ RowsAt w u (q.getD j []) := by
  obtain ⟨_, a, cap, e, hk, hc⟩ := h
  exact ⟨a, cap, e, hk, fun j hj => by obtain ⟨g, off, u, h1, h2, h3⟩ := hc j hj; exact ⟨g, off, u, h1, World.block_lt_of_cell? w _ h2, h2, h3⟩⟩

/-- Rows in blocks that a write does not hit. -/
theorem RowsL.apart {w : World} {B L : Nat} {v : Value} {xss : List (List Int)} (h : RowsL w B L v xss) (p : Addr) (u : Value) (hp : p.block < B ∨ L ≤ p.block) : RowsL (w.setCell p u) B L v xss := by
  obtain ⟨us, e, ho, h1, h2, hr, hd⟩ := h
  refine ⟨us, e, ownsRow_of_block ho (fun k ek => Below.heap_setCell w p u k (by have := (World.ownsRow.lt ho k ek).1; have := h1 k ek; omega)), h1, by simpa [World.setCell] using h2, fun j hj => ?_, hd⟩
  exact ⟨ownsRow_of_block (hr j hj).1 (fun k ek => Below.heap_setCell w p u k (by have := (World.ownsRow.lt (hr j hj).1 k ek).1; have := (hr j hj).2.1 k ek; omega)), (hr j hj).2.1, by simpa [World.setCell] using h2⟩

/-- .. of the call's own: each member in a stretch of blocks of its own. -/
def QL (w : World) (B L : Nat) (v : Value) (q : List (List (List Int))) : Prop :=
  ∃ (us : List Value) (lo hi : Nat → Nat), us.length = q.length ∧ w.ownsRow B 22 1 v q.length us ∧ (∀ k, v.ownBlock = some k → k < L ∧ ∀ j, j < q.length → k < lo j ∨ hi j ≤ k) ∧ L ≤ w.heap.size ∧
    (∀ j, j < q.length → B ≤ lo j ∧ lo j ≤ hi j ∧ hi j ≤ L ∧ RowsL w (lo j) (hi j) (us.getD j undef) (q.getD j [])) ∧
    ∀ i j, i ≠ j → i < q.length → j < q.length → hi i ≤ lo j ∨ hi j ≤ lo i
theorem QL.drewN {w : World} {B L : Nat} {v : Value} {q : List (List (List Int))} (h : QL w B L v q) (n : Nat) : QL (w.drewN n) B L v q := h
theorem QL.at {w : World} {B L : Nat} {v : Value} {q : List (List (List Int))} (h : QL w B L v q) : QAt w v q := by
  obtain ⟨us, lo, hi, e, ho, _, _, hr, _⟩ := h
  have ho' := ho
  obtain ⟨h1, ⟨rfl, h2⟩ | ⟨g, cap, cur, rfl, h3, h4, h5, h6, h7, h8⟩⟩ := ho
  · have : q = [] := List.length_eq_zero_iff.1 h2
    subst this
    exact QAt.nil _ _ _
  · refine ⟨by unfold maxLen at h6; omega, _, _, rfl, h5, fun j hj => ⟨g, 0, us.getD j undef, rfl, ?_, (hr j hj).2.2.2.at⟩⟩
    rw [Nat.zero_add, ho'.cellAt j (by omega)]
    simp [List.getD, List.getElem?_eq_getElem (show j < us.length by omega)]
theorem QL.below {w w' : World} {B L B' : Nat} {v : Value} {q : List (List (List Int))} (h : QL w B L v q) (hb : Below B' w w') (hs : w.heap.size ≤ B') : QL w' B L v q := by
  obtain ⟨us, lo, hi, e, ho, h1, h2, hr, hd⟩ := h
  exact ⟨us, lo, hi, e, ownsRow_of_block ho (fun k e => hb.block k (by have := (World.ownsRow.lt ho k e).2; omega)), h1, Nat.le_trans h2 hb.size, fun j hj => ⟨(hr j hj).1, (hr j hj).2.1, (hr j hj).2.2.1, (hr j hj).2.2.2.below hb hs⟩, hd⟩
theorem QL.keep {w w' : World} {B L B' L' : Nat} {v : Value} {q : List (List (List Int))} (h : QL w B L v q) (m : Marked B' L' w w') (d : L ≤ B' ∨ L' ≤ B) : QL w' B L v q := by
  obtain ⟨us, lo, hi, e, ho, h1, h2, hr, hd⟩ := h
  exact ⟨us, lo, hi, e, ownsRow_of_block ho (fun k e => m.block k (by have := (h1 k e).1; have := (World.ownsRow.lt ho k e).1; omega)), h1, by rw [m.size]; exact h2, fun j hj => ⟨(hr j hj).1, (hr j hj).2.1, (hr j hj).2.2.1, (hr j hj).2.2.2.keep m (by have := (hr j hj).1; have := (hr j hj).2.2.1; omega)⟩, hd⟩
theorem QL.mono {w : World} {B L B' L' : Nat} {v : Value} {q : List (List (List Int))} (h : QL w B L v q) (hB : B' ≤ B) (hL : L ≤ L') (hs : L' ≤ w.heap.size) : QL w B' L' v q := by
  obtain ⟨us, lo, hi, e, ho, h1, h2, hr, hd⟩ := h
  refine ⟨us, lo, hi, e, ⟨ho.1, ?_⟩, fun k e => ⟨Nat.lt_of_lt_of_le (h1 k e).1 hL, (h1 k e).2⟩, hs, fun j hj => ⟨Nat.le_trans hB (hr j hj).1, (hr j hj).2.1, Nat.le_trans (hr j hj).2.2.1 hL, (hr j hj).2.2.2⟩, hd⟩
  rcases ho.2 with h2 | ⟨g, cap, cur, rfl, h3, h4⟩
  · exact .inl h2
  · exact .inr ⟨g, cap, cur, rfl, by omega, h4⟩
theorem QL.nil (w : World) (B L : Nat) (hL : L ≤ w.heap.size) : QL w B L (.slice none 0 0) [] :=
  ⟨[], fun _ => 0, fun _ => 0, rfl, World.ownsRow_nil _ _ _ _, fun k e => by simp [Value.ownBlock] at e, hL, fun j hj => by simp at hj, fun i j _ hi => by simp at hi⟩
theorem Try.infoRows : (Try.prog.info? 22).map (fun i => (i.zero, i.size, i.bytes)) = some (some (.slice none 0 0), 1, 24) := by kernel_rfl
/-- Members that were just made are nil. -/
theorem QL.fresh (w : World) (n : Nat) (hn : n ≤ maxLen) : QL (w.alloc (.cells (madeCells #[.slice none 0 0] n) 22)) w.heap.size (w.heap.size + 1) (.slice (some ⟨w.heap.size, 0, none⟩) n n) (List.replicate n []) := by
  have := World.ownsRow_lit (base := w.heap.size) (e := 22) (size := 1) w (madeCells #[.slice none 0 0] n) n (Nat.le_refl _) hn (by simp [size_madeCells])
  rw [toList_madeCells_one] at this
  refine ⟨List.replicate n (.slice none 0 0), fun _ => w.heap.size, fun _ => w.heap.size, by simp, by rw [List.length_replicate]; exact this, fun k ek => ?_, by simp, fun j hj => ?_, fun i j _ _ _ => Or.inl (Nat.le_refl _)⟩
  · simp only [Value.ownBlock, Option.some.injEq] at ek
    exact ⟨by omega, fun j _ => Or.inr (show w.heap.size ≤ k by omega)⟩
  · rw [List.length_replicate] at hj
    have e1 : (List.replicate n (Value.slice none 0 0)).getD j undef = .slice none 0 0 := by simp [List.getD, hj]
    have e2 : (List.replicate n ([] : List (List Int))).getD j [] = [] := by simp [List.getD, hj]
    rw [e1, e2]
    exact ⟨Nat.le_refl _, Nat.le_refl _, (show w.heap.size ≤ w.heap.size + 1 by omega), RowsL.nil _ _ _ (by rw [World.size_alloc]; show w.heap.size ≤ w.heap.size + 1; omega)⟩
/-- A younger member stored. -/
theorem QL.store {w : World} {B L g n cap j : Nat} {u : Value} {q : List (List (List Int))} {ys : List (List Int)} (h : QL w B L (.slice (some ⟨g, 0, none⟩) n cap) q) (hj : j < q.length) (hu : RowsL w L w.heap.size u ys) (hB : B ≤ L) :
    QL (w.setCell ⟨g, j, none⟩ u) B w.heap.size (.slice (some ⟨g, 0, none⟩) n cap) (q.set j ys) ∧ B ≤ g ∧ g < L ∧ (∃ old, w.cell? ⟨g, j, none⟩ = some old) ∧ w.frozen? ⟨g, j, none⟩ = false := by
  obtain ⟨us, lo, hi, e, ho, h1, h2, hr, hd⟩ := h
  obtain rfl : n = q.length := by
    rcases ho.2 with ⟨e3, _⟩ | ⟨_, _, _, e3, _⟩
    · cases e3
    · simp only [Value.slice.injEq] at e3; exact e3.2.1
  obtain ⟨hg, hgj⟩ := h1 g rfl
  have hst := (ho.stored j u).1
  have z : (w.setCell ⟨g, j, none⟩ u).heap.size = w.heap.size := by simp [World.setCell]
  refine ⟨⟨us.set j u, fun i => if i = j then L else lo i, fun i => if i = j then w.heap.size else hi i, by rw [List.length_set, List.length_set]; exact e, by rw [List.length_set]; exact hst, fun k ek => ?_, by rw [z]; exact Nat.le_refl _, fun i hi' => ?_, fun i k hik hi' hk => ?_⟩, (World.ownsRow.lt ho g rfl).1, hg, ?_, ho.frozenAt j⟩
  · simp only [Value.ownBlock, Option.some.injEq] at ek
    subst ek
    refine ⟨by omega, fun i hi' => ?_⟩
    rw [List.length_set] at hi'
    by_cases c : i = j
    · simp only [if_pos c]; exact Or.inl hg
    · simp only [if_neg c]; exact hgj i hi'
  · rw [List.length_set] at hi'
    by_cases c : i = j
    · subst c
      simp only [if_pos]
      have e1 : (us.set i u).getD i undef = u := by simp [List.getD, show i < us.length by omega]
      have e2 : (q.set i ys).getD i [] = ys := by simp [List.getD, hi']
      rw [e1, e2]
      exact ⟨hB, h2, Nat.le_refl _, hu.apart ⟨g, i, none⟩ u (Or.inl hg)⟩
    · simp only [if_neg c]
      have e1 : (us.set j u).getD i undef = us.getD i undef := by simp [List.getD, List.getElem?_set_ne (fun h => c h.symm)]
      have e2 : (q.set j ys).getD i [] = q.getD i [] := by simp [List.getD, List.getElem?_set_ne (fun h => c h.symm)]
      rw [e1, e2]
      obtain ⟨r1, r2, r3, r4⟩ := hr i hi'
      exact ⟨r1, r2, Nat.le_trans r3 h2, r4.apart ⟨g, j, none⟩ u (hgj i hi')⟩
  · rw [List.length_set] at hi' hk
    by_cases c : i = j
    · by_cases d : k = j
      · exact absurd (c.trans d.symm) hik
      · simp only [if_pos c, if_neg d]
        exact Or.inr (hr k hk).2.2.1
    · by_cases d : k = j
      · simp only [if_neg c, if_pos d]
        exact Or.inl (hr i hi').2.2.1
      · simp only [if_neg c, if_neg d]
        exact hd i k hik hi' hk
  · rw [ho.cellAt j (by omega), List.getElem?_eq_getElem (by omega)]; exact ⟨_, rfl⟩
theorem QL.block {w : World} {B L g n cap : Nat} {q : List (List (List Int))} (h : QL w B L (.slice (some ⟨g, 0, none⟩) n cap) q) : B ≤ g ∧ g < L := by
  obtain ⟨us, lo, hi, e, ho, h1, _⟩ := h
  exact ⟨(World.ownsRow.lt ho g rfl).1, (h1 g rfl).1⟩
theorem copyQ_set (q : List (List (List Int))) (j n : Nat) (h : j < q.length) (hn : q.length = n) : (q.take j ++ List.replicate (n - j) ([] : List (List Int))).set j (q.getD j []) = q.take (j + 1) ++ List.replicate (n - (j + 1)) [] := by
  have e : (q.take j).length = j := by rw [List.length_take]; omega
  rw [List.set_append_right _ _ (by omega), e, Nat.sub_self, show n - j = (n - (j + 1)) + 1 by omega, List.replicate_succ, List.set_cons_zero, List.take_succ_eq_append_getElem h, List.append_assoc]
  simp [List.getD, List.getElem?_eq_getElem h]

/-- The size that the law counts; the numbers. -/
def szQ : List (List (List Int)) → Nat
  | [] => 0
  | x :: q => x.length + tot x + szQ q
theorem szQ_append : ∀ (p q : List (List (List Int))), szQ (p ++ q) = szQ p + szQ q
  | [], q => by simp [szQ]
  | x :: p, q => by rw [List.cons_append, szQ, szQ, szQ_append p q]; omega
theorem szQ_succ {q : List (List (List Int))} {j : Nat} (h : j < q.length) : szQ (q.take (j + 1)) = szQ (q.take j) + ((q.getD j []).length + tot (q.getD j [])) := by
  rw [List.take_succ_eq_append_getElem h, szQ_append]
  simp [szQ, List.getD, List.getElem?_eq_getElem h]
theorem szQ_le (q : List (List (List Int))) (j : Nat) : szQ (q.take j) ≤ szQ q := by
  have := szQ_append (q.take j) (q.drop j)
  rw [List.take_append_drop] at this
  omega
theorem szQ_mem {q : List (List (List Int))} {j : Nat} (h : j < q.length) : (q.getD j []).length + tot (q.getD j []) ≤ szQ q := by
  have := szQ_succ h
  have := szQ_le q (j + 1)
  omega
def SmallQ (q : List (List (List Int))) : Prop := q.length + szQ q ≤ 1048576 ∧ ∀ x ∈ q, ∀ r ∈ x, ∀ z ∈ r, I64 z
theorem SmallQ.mem {q : List (List (List Int))} (h : SmallQ q) {j : Nat} (hj : j < q.length) : SmallLL (q.getD j []) := by
  have := szQ_mem hj
  refine ⟨by have := h.1; omega, h.2 _ ?_⟩
  rw [show q.getD j [] = q[j] by simp [List.getD, List.getElem?_eq_getElem hj]]
  exact List.getElem_mem _

/-- Two that read alike are equal. -/
theorem eq_q (w : World) (u v : Value) (q : List (List (List Int))) (hu : QAt w u q) (hv : QAt w v q) :
    Calls Try.prog 20 #[u, v] w fun e w' => e = .returned (.bool true) ∧ ∃ n, w' = w.drewN n := by
  have hml := hu.1
  obtain ⟨a, cap, rfl, -, hc⟩ := hu.shape
  obtain ⟨b, capb, rfl, -, hd⟩ := hv.shape
  obtain ⟨m, hm⟩ : ∃ m, q.length = m := ⟨_, rfl⟩
  rw [hm] at hc hd hml ⊢
  have HC := Lib.hid hc
  have HD := Lib.hid hd
  have t : ((m : Int) != (m : Int)) = false := by simp
  clear hc hd hu hv hm
  go_enter Try.func20, Try.ntmps20
  go_wp2
  go_loopw [5] (fun i wr => ∃ j : Nat, j ≤ m ∧ i = .int .i64 j ∧ ∃ d, wr = w.drewN d) (fun i _ => m - (intOf i).toNat)
  case atStart => exact ⟨0, by omega, rfl, 0, rfl⟩
  case round =>
    obtain ⟨j, hj, rfl, d, rfl⟩ := hrel
    by_cases c : j < m
    · have g1 : decide (j < m) = true := by simpa using c
      obtain ⟨g, off, x, rfl, -, c1, hx⟩ := HC.out j c
      obtain ⟨g', off', y, rfl, -, c2, hy⟩ := HD.out j c
      obtain ⟨zs, hz⟩ : ∃ zs, q.getD j [] = zs := ⟨_, rfl⟩
      rw [hz] at hx hy
      obtain ⟨xa, xc, rfl, -⟩ := hx.shape
      obtain ⟨ya, yc, rfl, -⟩ := hy.shape
      have HE := Lib.hid (fun W (h1 : RowsAt W _ zs) (h2 : RowsAt W _ zs) => eq_rows W (.slice xa zs.length xc) (.slice ya zs.length yc) zs h1 h2)
      have HX := Lib.hid (fun k => (hx.drewN d).drewN k)
      have HY := Lib.hid (fun k => (hy.drewN d).drewN k)
      have HX2 := Lib.hid (fun k => hx.drewN k)
      have HY2 := Lib.hid (fun k => hy.drewN k)
      have j0 : (0 : Int) ≤ (j : Int) := by omega
      have j1 : (j : Int) < (m : Int) := by omega
      have w3 := IntWalk.i64_in ((j : Int) + 1) (by omega)
      clear hz hx hy
      go_wp2
      go_quiet ((go_at_call 15; first | exact Calls.quiet_of (HE.out _ (HX.out _) (HY.out _)) | exact quiet_drew2 (HE.out _ (HX2.out _) (HY2.out _))))
      go_wp2
      go_roundw
      case rel => exact ⟨j + 1, by omega, by go_num, _, rfl⟩
      case measure => simp [intOf]; omega
    · have g1 : decide (j < m) = false := by simpa using c
      go_wp2
      go_ret
      exact ⟨rfl, _, rfl⟩

set_option maxHeartbeats 1000000 in
theorem sz_rowsE (w : World) (v : Value) (xss : List (List Int)) (q : Int) (hv : RowsAt w v xss) (q0 : 0 ≤ q) (q1 : q ≤ 1048576) :
    Calls Try.prog 11 #[v, .int .i64 q] w fun e w' => ∃ r : Int, e = .returned (.int .i64 r) ∧ (0 ≤ r → r + ((xss.length + tot xss : Nat) : Int) = q) ∧ ∃ n, w' = w.drewN n := by
  have hml := hv.1
  obtain ⟨a, cap, rfl, hc⟩ := hv.shape
  have HC := Lib.hid hc
  have HA := Lib.hid (fun j h => ahead2_succ (xss := xss) (j := j) h)
  have HZ : Hid (tot (xss.take xss.length) = tot xss) := by unfold Hid; rw [List.take_length]
  have a0 : tot (xss.take 0) = 0 := rfl
  obtain ⟨m, hm⟩ : ∃ m, xss.length = m := ⟨_, rfl⟩
  rw [hm] at HC HA HZ hml ⊢
  obtain ⟨t, ht⟩ : ∃ t, tot xss = t := ⟨_, rfl⟩
  rw [ht] at HZ ⊢
  have w2 := IntWalk.i64_in (q - (m : Int)) (by omega)
  clear hc hm ht hv
  by_cases c : q - (m : Int) < 0
  · have g : decide (q - (m : Int) < 0) = true := decide_eq_true c
    clear c
    go_enter Try.func11, Try.ntmps11
    go_wp2
    go_ret
    exact ⟨-1, rfl, fun h => by omega, 0, rfl⟩
  have g : decide (q - (m : Int) < 0) = false := decide_eq_false c
  go_enter Try.func11, Try.ntmps11
  go_wp2
  go_loop [1, 5] (fun u i => ∃ (j : Nat) (r : Int), j ≤ m ∧ i = .int .i64 j ∧ u = .int .i64 r ∧ 0 ≤ r ∧ r = q - m - (tot (xss.take j) : Nat)) (fun _ i => m - (intOf i).toNat)
  case atStart => exact ⟨0, q - m, by omega, rfl, rfl, by omega, by rw [a0]; simp⟩
  case round =>
    obtain ⟨j, r, hj, rfl, rfl, hr0, hr⟩ := hrel
    by_cases c : j < m
    · have g1 : decide (j < m) = true := by simpa using c
      obtain ⟨g, off, x, rfl, c1, hx⟩ := HC.out j c
      have hs := HA.out j c
      obtain ⟨zs, hz⟩ : ∃ zs, xss.getD j [] = zs := ⟨_, rfl⟩
      rw [hz] at hx hs
      have HH := Lib.hid (sz_row r x zs w hx hr0 (by omega) hx.1)
      have hr' := Lib.hid hr
      have hs' := Lib.hid hs
      have j0 : (0 : Int) ≤ (j : Int) := by omega
      have j1 : (j : Int) < (m : Int) := by omega
      have w3 := IntWalk.i64_in ((j : Int) + 1) (by omega)
      clear hx hz hr hs
      go_wp2_with fail
      refine HH.out.mono ?_
      rintro e w' ⟨r2, rfl, hr2, hr3, rfl⟩
      by_cases d : r2 < 0
      · have g2 : decide (r2 < 0) = true := decide_eq_true d
        clear d hr2
        go_wp2
        go_ret
        exact ⟨-1, rfl, fun h => by omega, 0, rfl⟩
      · have g2 : decide (r2 < 0) = false := decide_eq_false d
        have e2 := Lib.hid (hr2 (by omega))
        clear hr2
        go_wp2
        go_round
        case rel => exact ⟨j + 1, r2, by omega, by go_num, rfl, by omega, by have := e2.out; have := hr'.out; rw [hs'.out]; omega⟩
        case measure => simp [intOf]; omega
    · have g1 : decide (j < m) = false := by simpa using c
      obtain rfl : j = m := by omega
      have hr' := Lib.hid hr
      clear hr
      go_wp2
      go_ret
      exact ⟨r, rfl, fun _ => by have := hr'.out; rw [HZ.out] at this; omega, 0, rfl⟩
set_option maxHeartbeats 1000000 in
theorem sz_q (w : World) (v : Value) (xss : List (List (List Int))) (q : Int) (hv : QAt w v xss) (q0 : 0 ≤ q) (q1 : q ≤ 1048576) :
    Calls Try.prog 16 #[v, .int .i64 q] w fun e w' => ∃ r : Int, e = .returned (.int .i64 r) ∧ (0 ≤ r → ((xss.length + szQ xss : Nat) : Int) ≤ q ∧ r ≤ q) ∧ ∃ n, w' = w.drewN n := by
  have hml := hv.1
  obtain ⟨a, cap, rfl, -, hc⟩ := hv.shape
  have HC := Lib.hid hc
  have HA := Lib.hid (fun j h => szQ_succ (q := xss) (j := j) h)
  have HZ : Hid (szQ (xss.take xss.length) = szQ xss) := by unfold Hid; rw [List.take_length]
  have a0 : szQ (xss.take 0) = 0 := rfl
  obtain ⟨m, hm⟩ : ∃ m, xss.length = m := ⟨_, rfl⟩
  rw [hm] at HC HA HZ hml ⊢
  obtain ⟨t, ht⟩ : ∃ t, szQ xss = t := ⟨_, rfl⟩
  rw [ht] at HZ ⊢
  have w2 := IntWalk.i64_in (q - (m : Int)) (by omega)
  clear hc hm ht hv
  by_cases c : q - (m : Int) < 0
  · have g : decide (q - (m : Int) < 0) = true := decide_eq_true c
    clear c
    go_enter Try.func16, Try.ntmps16
    go_wp2
    go_ret
    exact ⟨-1, rfl, fun h => by omega, 0, rfl⟩
  have g : decide (q - (m : Int) < 0) = false := decide_eq_false c
  go_enter Try.func16, Try.ntmps16
  go_wp2
  go_loopw [1, 5] (fun u i wr => ∃ (j : Nat) (r : Int), j ≤ m ∧ i = .int .i64 j ∧ u = .int .i64 r ∧ 0 ≤ r ∧ Hid (r = q - m - (szQ (xss.take j) : Nat)) ∧ ∃ d, wr = w.drewN d) (fun _ i _ => m - (intOf i).toNat)
  case atStart => exact ⟨0, q - m, by omega, rfl, rfl, by omega, by unfold Hid; rw [a0]; simp, 0, rfl⟩
  case round =>
    obtain ⟨j, r, hj, rfl, rfl, hr0, hr', d, rfl⟩ := hrel
    by_cases c : j < m
    · have g1 : decide (j < m) = true := by simpa using c
      obtain ⟨g, off, x, rfl, -, c1, hx⟩ := HC.out j c
      have hs := HA.out j c
      obtain ⟨zs, hz⟩ : ∃ zs, xss.getD j [] = zs := ⟨_, rfl⟩
      rw [hz] at hx hs
      have HH := Lib.hid (sz_rowsE (w.drewN d) x zs r (hx.drewN d) hr0 (by have := hr'.out; omega))
      have hs' := Lib.hid hs
      obtain ⟨xa, xc, rfl, -⟩ := hx.shape
      have j0 : (0 : Int) ≤ (j : Int) := by omega
      have j1 : (j : Int) < (m : Int) := by omega
      have w3 := IntWalk.i64_in ((j : Int) + 1) (by omega)
      clear hx hz hs
      go_wp2_with fail
      refine HH.out.mono ?_
      rintro e w' ⟨r2, rfl, hr2, d2, rfl⟩
      by_cases dd : r2 < 0
      · have g2 : decide (r2 < 0) = true := decide_eq_true dd
        clear dd hr2
        go_wp2
        go_ret
        exact ⟨-1, rfl, fun h => by omega, _, rfl⟩
      · have g2 : decide (r2 < 0) = false := decide_eq_false dd
        have e2 := Lib.hid (hr2 (by omega))
        clear hr2
        go_wp2
        go_roundw
        case rel => exact ⟨j + 1, r2, by omega, by go_num, rfl, by omega, by unfold Hid; have := e2.out; have := hr'.out; rw [hs'.out]; omega, _, rfl⟩
        case measure => simp [intOf]; omega
    · have g1 : decide (j < m) = false := by simpa using c
      obtain rfl : j = m := by omega
      go_wp2
      go_ret
      exact ⟨r, rfl, fun _ => by have := hr'.out; rw [HZ.out] at this; omega, _, rfl⟩

set_option maxHeartbeats 2000000 in
/-- A copy is of the call's own. -/
theorem copy_q (w : World) (v : Value) (xss : List (List (List Int))) (hv : QAt w v xss) (hx : xss.length + szQ xss ≤ 1048576) :
    Calls Try.prog 18 #[v] w fun e w' => ∃ v', e = .returned v' ∧ QL w' w.heap.size w'.heap.size v' xss ∧ Below w.heap.size w w' := by
  obtain ⟨a, cap, rfl, -, hc⟩ := hv.shape
  have HC := Lib.hid hc
  have SETL : Hid (∀ j, j < xss.length → (xss.take j ++ List.replicate (xss.length - j) ([] : List (List Int))).set j (xss.getD j []) = xss.take (j + 1) ++ List.replicate (xss.length - (j + 1)) []) := fun j hj => copyQ_set xss j _ hj rfl
  have LEN : Hid (∀ j, j ≤ xss.length → (xss.take j ++ List.replicate (xss.length - j) ([] : List (List Int))).length = xss.length) := fun j hj => by rw [List.length_append, List.length_take, List.length_replicate]; omega
  have TOT : Hid (∀ j, j < xss.length → (xss.getD j []).length + tot (xss.getD j []) ≤ 1048576) := fun j hj => by
    have := szQ_mem hj
    omega
  have FIN : Hid (xss.take xss.length ++ List.replicate (xss.length - xss.length) ([] : List (List Int)) = xss) := by unfold Hid; simp
  have R0 : Hid (∀ W : World, QL (W.alloc (.cells (madeCells #[.slice none 0 0] xss.length) 22)) W.heap.size (W.heap.size + 1) (.slice (some ⟨W.heap.size, 0, none⟩) xss.length xss.length) (xss.take 0 ++ List.replicate (xss.length - 0) [])) := fun W => by
    have := QL.fresh W xss.length (by unfold maxLen; omega)
    simpa using this
  obtain ⟨m, hm⟩ : ∃ m, xss.length = m := ⟨_, rfl⟩
  rw [hm] at HC SETL LEN TOT FIN R0 ⊢
  have hm2 : m ≤ 1048576 := by omega
  have hmk := fun W : World => run_make_row' (P := Try.prog) 26 22 (.slice none 0 0) 24 Try.underlying26 Try.infoRows rfl .i64 .i64 m (by omega) (by omega) W
  clear hc hv hm hx
  go_enter Try.func18, Try.ntmps18
  go_wp2
  have RO := Lib.hid (R0.out w)
  have BO : Hid (Below w.heap.size w (w.alloc (.cells (madeCells #[.slice none 0 0] m) 22))) := (Below.refl _ _).alloc (Nat.le_refl _) _
  have SO : (w.alloc (.cells (madeCells #[.slice none 0 0] m) 22)).heap.size = w.heap.size + 1 := by simp
  obtain ⟨wo, hwo⟩ : ∃ wo, w.alloc (.cells (madeCells #[.slice none 0 0] m) 22) = wo := ⟨_, rfl⟩
  rw [hwo] at RO BO SO ⊢
  rw [← SO] at RO
  obtain ⟨B, hB⟩ : ∃ B, w.heap.size = B := ⟨_, rfl⟩
  rw [hB] at RO BO HC ⊢
  have HE := Lib.hid hB
  clear hwo hB hmk R0 SO
  go_loopw [4] (fun i wr => ∃ (j : Nat), j ≤ m ∧ i = .int .i64 j ∧ Hid (QL wr B wr.heap.size (.slice (some ⟨B, 0, none⟩) m m) (xss.take j ++ List.replicate (m - j) [])) ∧ Hid (Below B w wr)) (fun i _ => m - (intOf i).toNat)
  case atStart => exact ⟨0, by omega, rfl, RO, BO⟩
  case round =>
    obtain ⟨j, hj, rfl, hR, hBl⟩ := hrel
    by_cases c : j < m
    · have k1 : decide (j < m) = true := decide_eq_true c
      obtain ⟨g, off, x, rfl, hg, cj, hx⟩ := HC.out j c
      have cx : wr.cell? ⟨g, off + j, none⟩ = some x := by
        rw [hBl.out.cell (p := ⟨g, off + j, none⟩) hg, cj]
      have hx' := hx.below hBl.out (by rw [HE.out]; exact Nat.le_refl _)
      have tl := TOT.out j c
      have SL := Lib.hid (SETL.out j c)
      have hlj := LEN.out j (by omega)
      have bB : Hid (B < wr.heap.size) := (hR.out.block).2
      have HCP := Lib.hid (copy_rows wr x (xss.getD j []) hx' tl)
      obtain ⟨ys, hys⟩ : ∃ ys, xss.getD j [] = ys := ⟨_, rfl⟩
      rw [hys] at HCP SL hx'
      obtain ⟨xa, xc, rfl, -⟩ := hx'.shape
      have j0 : (0 : Int) ≤ (j : Int) := by omega
      have j1 : (j : Int) < (m : Int) := by omega
      have w3 := IntWalk.i64_in ((j : Int) + 1) (by omega)
      clear hx hx' tl hys cj hg
      go_wp2_with fail
      refine HCP.out.mono ?_
      rintro e w4 ⟨y, rfl, i4, b4⟩
      obtain ⟨ya, yc, rfl, -⟩ := i4.at.shape
      have R4 := hR.out.below b4 (Nat.le_refl _)
      obtain ⟨st, _, _, ⟨old, hold⟩, hf⟩ := R4.store (by rw [hlj]; exact c) i4 (Nat.le_of_lt bB.out)
      rw [SL.out] at st
      have ST := Lib.hid st
      have hb4 : Hid (Below B w (w4.setCell ⟨B, j, none⟩ (.slice ya ys.length yc))) := (hBl.out.trans (b4.mono (Nat.le_of_lt bB.out))).setCell (Nat.le_refl _) _
      have sz : Hid ((w4.setCell ⟨B, j, none⟩ (.slice ya ys.length yc)).heap.size = w4.heap.size) := by unfold Hid; simp [World.setCell]
      clear i4 b4 R4 st
      go_wp2
      go_roundw
      case rel => exact ⟨j + 1, by omega, by go_num, by rw [sz.out]; exact ST, hb4⟩
      case measure => simp [intOf]; omega
    · have k1 : decide (j < m) = false := decide_eq_false c
      obtain rfl : j = m := by omega
      rw [FIN.out] at hR
      go_wp2
      go_ret
      exact ⟨_, rfl, by rw [HE.out]; exact hR.out, by rw [HE.out]; exact hBl.out⟩
end Go.Proofs.Ytkonddifmonkcaa
