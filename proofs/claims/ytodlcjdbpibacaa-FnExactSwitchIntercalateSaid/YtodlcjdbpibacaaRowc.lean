/- Slices of slices of integers: a row stored; a copy; how many numbers there are. -/
import Derived.Test.YtodlcjdbpibacaaRowA
namespace Go.Proofs.Ytodlcjdbpibacaa
open Go.RowKit
set_option linter.unusedVariables false

/-- 'xss[j] = ys': a younger row takes a row's place. -/
theorem RowsL.store {w : World} {B L g n cap j : Nat} {u : Value} {xss : List (List Int)} {ys : List Int} (h : RowsL w B L (.slice (some ⟨g, 0, none⟩) n cap) xss) (hj : j < xss.length) (hu : Ints w L u ys) (hB : B ≤ L) :
    RowsL (w.setCell ⟨g, j, none⟩ u) B w.heap.size (.slice (some ⟨g, 0, none⟩) n cap) (xss.set j ys) ∧ B ≤ g ∧ (∃ old, w.cell? ⟨g, j, none⟩ = some old) ∧ w.frozen? ⟨g, j, none⟩ = false := by
  obtain ⟨us, e, ho, h1, h2, hr, hd⟩ := h
  obtain rfl : n = xss.length := by
    rcases ho.2 with ⟨e3, _⟩ | ⟨_, _, _, e3, _⟩
    · cases e3
    · simp only [Value.slice.injEq] at e3; exact e3.2.1
  have hg := (World.ownsRow.lt ho g rfl)
  have sz : (w.setCell ⟨g, j, none⟩ u).heap.size = w.heap.size := by simp [World.setCell]
  have sb : ∀ k, k ≠ g → (w.setCell ⟨g, j, none⟩ u).heap[k]? = w.heap[k]? := fun k hk => by
    simp [World.setCell, Array.getElem?_modify, Ne.symm hk]
  have keep : ∀ {z : Value} {zs : List Int} {B' L' : Nat}, IntsL w B' L' z zs → IntsL (w.setCell ⟨g, j, none⟩ u) B' L' z zs := fun {z zs B' L'} hz => by
    refine ⟨ownsRow_of_block hz.1 (fun k ek => sb k (fun e2 => ?_)), hz.2.1, by rw [sz]; exact hz.2.2⟩
    -- the outer array holds slices, the row integers
    obtain ⟨_, ⟨rfl, _⟩ | ⟨g1, cap1, cur1, rfl, _, q1, _⟩⟩ := hz.1
    · simp [Value.ownBlock] at ek
    · obtain ⟨_, ⟨e3, _⟩ | ⟨g2, cap2, cur2, e3, _, q2, _⟩⟩ := ho
      · cases e3
      · simp only [Value.slice.injEq, Option.some.injEq, Addr.mk.injEq] at e3
        simp [Value.ownBlock] at ek
        obtain ⟨⟨rfl, -⟩, -⟩ := e3
        subst ek; subst e2
        rw [q1] at q2
        simp only [Option.some.injEq, Obj.cells.injEq] at q2
        exact absurd q2.2.1 (by decide)
  have hul : IntsL w L w.heap.size u ys := hu.lim
  have st := ho.stored j u
  have g1 : ∀ i, i ≠ j → (us.set j u).getD i undef = us.getD i undef := fun i hi => by simp [List.getD, Ne.symm hi]
  have g2 : (us.set j u).getD j undef = u := by simp [List.getD, show j < us.length by omega]
  have g3 : ∀ i, i ≠ j → (xss.set j ys).getD i [] = xss.getD i [] := fun i hi => by simp [List.getD, Ne.symm hi]
  have g4 : (xss.set j ys).getD j [] = ys := by simp [List.getD, hj]
  have apart : ∀ i, i < xss.length → (us.getD i undef).ownBlock = none ∨ (us.getD i undef).ownBlock ≠ u.ownBlock := fun i hi => by
    cases k1 : (us.getD i undef).ownBlock with
    | none => exact .inl rfl
    | some k =>
      right
      intro k2
      have a1 := (hr i hi).2.1 k k1
      have a2 := (World.ownsRow.lt hu k k2.symm).1
      omega
  refine ⟨⟨us.set j u, by simp [e], by rw [List.length_set]; exact st.1, fun k ek => ?_, by rw [sz]; exact Nat.le_refl _, fun i hi => ?_, fun i i' hii hi => ?_⟩, hg.1, ?_, ho.frozenAt j⟩
  · exact Nat.lt_of_lt_of_le (h1 k ek) h2
  · rw [List.length_set] at hi
    by_cases c : i = j
    · subst c
      rw [g2, g4]
      exact (keep hul).mono hB (Nat.le_refl _) (by rw [sz]; exact Nat.le_refl _)
    · rw [g1 i c, g3 i c]
      exact (keep (hr i hi)).mono (Nat.le_refl _) h2 (by rw [sz]; exact Nat.le_refl _)
  · rw [List.length_set] at hi
    by_cases c : i = j
    · subst c
      rw [g2, g1 i' (by omega)]
      rcases apart i' hi with h | h
      · cases k1 : u.ownBlock with
        | none => exact .inl rfl
        | some k => right; rw [h]; simp
      · exact .inr (Ne.symm h)
    · by_cases c' : i' = j
      · subst c'
        rw [g2, g1 i c]
        exact apart i (by omega)
      · rw [g1 i c, g1 i' c']
        exact hd i i' hii hi
  · rw [ho.cellAt j (by omega), List.getElem?_eq_getElem (show j < us.length by omega)]; exact ⟨_, rfl⟩
theorem RowsL.block {w : World} {B L g n cap : Nat} {xss : List (List Int)} (h : RowsL w B L (.slice (some ⟨g, 0, none⟩) n cap) xss) : B ≤ g ∧ g < L := by
  obtain ⟨us, e, ho, h1, _⟩ := h
  exact ⟨(World.ownsRow.lt ho g rfl).1, h1 g rfl⟩
/-- Rows that were just made are nil. -/
theorem RowsL.fresh (w : World) (n : Nat) (hn : n ≤ maxLen) : RowsL (w.alloc (.cells (madeCells #[.slice none 0 0] n) 23)) w.heap.size (w.heap.size + 1) (.slice (some ⟨w.heap.size, 0, none⟩) n n) (List.replicate n []) := by
  have := World.ownsRow_lit (base := w.heap.size) (e := 23) (size := 1) w (madeCells #[.slice none 0 0] n) n (Nat.le_refl _) hn (by simp [size_madeCells])
  rw [toList_madeCells_one] at this
  refine ⟨List.replicate n (.slice none 0 0), by simp, by rw [List.length_replicate]; exact this, fun k ek => by simp [Value.ownBlock] at ek; omega, by simp, fun j hj => ?_, fun i j hij hj => ?_⟩
  · rw [List.length_replicate] at hj
    have e1 : (List.replicate n (Value.slice none 0 0)).getD j undef = .slice none 0 0 := by simp [List.getD, hj]
    have e2 : (List.replicate n ([] : List Int)).getD j [] = [] := by simp [List.getD, hj]
    rw [e1, e2]
    exact ⟨World.ownsRow_nil _ _ _ _, fun k ek => by simp [Value.ownBlock] at ek, by simp⟩
  · rw [List.length_replicate] at hj
    left
    have e1 : (List.replicate n (Value.slice none 0 0)).getD i undef = .slice none 0 0 := by simp [List.getD, show i < n by omega]
    rw [e1]; rfl

theorem copyR_set (xss : List (List Int)) (j n : Nat) (h : j < xss.length) (hn : xss.length = n) : (xss.take j ++ List.replicate (n - j) ([] : List Int)).set j (xss.getD j []) = xss.take (j + 1) ++ List.replicate (n - (j + 1)) [] := by
  have e : (xss.take j).length = j := by rw [List.length_take]; omega
  rw [List.set_append_right _ _ (by omega), e, Nat.sub_self, show n - j = (n - (j + 1)) + 1 by omega, List.replicate_succ, List.set_cons_zero, List.take_succ_eq_append_getElem h, List.append_assoc]
  simp [List.getD, List.getElem?_eq_getElem h]
theorem getD_mem {xss : List (List Int)} {j : Nat} (h : j < xss.length) : xss.getD j [] ∈ xss := by
  rw [show xss.getD j [] = xss[j] by simp [List.getD, List.getElem?_eq_getElem h]]
  exact List.getElem_mem _

set_option maxHeartbeats 2000000 in
/-- A copy of rows is of the call's own. -/
theorem copy_rows (w : World) (v : Value) (xss : List (List Int)) (hv : RowsAt w v xss) (hx : xss.length + tot xss ≤ 1048576) :
    Calls Try.prog 6 #[v] w fun e w' => ∃ v', e = .returned v' ∧ RowsL w' w.heap.size w'.heap.size v' xss ∧ Below w.heap.size w w' := by
  obtain ⟨_, a, cap, rfl, _, hc⟩ := hv
  have HC := Lib.hid (show ∀ j, j < xss.length → ∃ g off u, a = some ⟨g, off, none⟩ ∧ g < w.heap.size ∧ w.cell? ⟨g, off + j, none⟩ = some u ∧ IntsAt w u (xss.getD j []) from fun j hj => by
    obtain ⟨g, off, u, h1, h2, h3⟩ := hc j hj
    exact ⟨g, off, u, h1, World.block_lt_of_cell? w _ h2, h2, h3.1⟩)
  have SETL : Hid (∀ j, j < xss.length → (xss.take j ++ List.replicate (xss.length - j) ([] : List Int)).set j (xss.getD j []) = xss.take (j + 1) ++ List.replicate (xss.length - (j + 1)) []) := fun j hj => copyR_set xss j _ hj rfl
  have LEN : Hid (∀ j, j ≤ xss.length → (xss.take j ++ List.replicate (xss.length - j) ([] : List Int)).length = xss.length) := fun j hj => by rw [List.length_append, List.length_take, List.length_replicate]; omega
  have TOT : Hid (∀ j, j < xss.length → (xss.getD j []).length ≤ 1048576) := fun j hj => by
    have := tot_mem xss _ (getD_mem hj)
    omega
  have FIN : Hid (xss.take xss.length ++ List.replicate (xss.length - xss.length) ([] : List Int) = xss) := by unfold Hid; simp
  have R0 : Hid (∀ W : World, RowsL (W.alloc (.cells (madeCells #[.slice none 0 0] xss.length) 23)) W.heap.size (W.heap.size + 1) (.slice (some ⟨W.heap.size, 0, none⟩) xss.length xss.length) (xss.take 0 ++ List.replicate (xss.length - 0) [])) := fun W => by
    have := RowsL.fresh W xss.length (by unfold maxLen; omega)
    simpa using this
  obtain ⟨m, hm⟩ : ∃ m, xss.length = m := ⟨_, rfl⟩
  rw [hm] at HC SETL LEN TOT FIN R0 ⊢
  have hm2 : m ≤ 1048576 := by omega
  have hmk := fun W : World => run_make_row' (P := Try.prog) 22 23 (.slice none 0 0) 24 Try.underlying22 Try.infoRow rfl .i64 .i64 m (by omega) (by omega) W
  clear hc hm hx
  go_enter Try.func6, Try.ntmps6
  go_wp2
  have RO := Lib.hid (R0.out w)
  have BO : Hid (Below w.heap.size w (w.alloc (.cells (madeCells #[.slice none 0 0] m) 23))) := (Below.refl _ _).alloc (Nat.le_refl _) _
  have SO : (w.alloc (.cells (madeCells #[.slice none 0 0] m) 23)).heap.size = w.heap.size + 1 := by simp
  obtain ⟨wo, hwo⟩ : ∃ wo, w.alloc (.cells (madeCells #[.slice none 0 0] m) 23) = wo := ⟨_, rfl⟩
  rw [hwo] at RO BO SO ⊢
  rw [← SO] at RO
  obtain ⟨B, hB⟩ : ∃ B, w.heap.size = B := ⟨_, rfl⟩
  rw [hB] at RO BO HC ⊢
  have HE := Lib.hid hB
  clear hwo hB hmk R0 SO
  go_loopw [4] (fun i wr => ∃ (j : Nat), j ≤ m ∧ i = .int .i64 j ∧ Hid (RowsL wr B wr.heap.size (.slice (some ⟨B, 0, none⟩) m m) (xss.take j ++ List.replicate (m - j) [])) ∧ Hid (Below B w wr)) (fun i _ => m - (intOf i).toNat)
  case atStart => exact ⟨0, by omega, rfl, RO, BO⟩
  case round =>
    obtain ⟨j, hj, rfl, hR, hBl⟩ := hrel
    by_cases c : j < m
    · have k1 : decide (j < m) = true := decide_eq_true c
      obtain ⟨g, off, x, rfl, hg, cj, hx⟩ := HC.out j c
      have cx : wr.cell? ⟨g, off + j, none⟩ = some x := by
        rw [hBl.out.cell (p := ⟨g, off + j, none⟩) hg, cj]
      have hx' := hx.below hBl.out (by rw [HE.out]; exact Nat.le_refl _)
      have tl := TOT.out j c
      have SL := Lib.hid (SETL.out j c)
      have hlj := LEN.out j (by omega)
      have bB : Hid (B < wr.heap.size) := (hR.out.block).2
      have HCP := Lib.hid (copy_any wr x (xss.getD j []) hx' tl)
      obtain ⟨ys, hys⟩ : ∃ ys, xss.getD j [] = ys := ⟨_, rfl⟩
      rw [hys] at HCP SL
      have j0 : (0 : Int) ≤ (j : Int) := by omega
      have j1 : (j : Int) < (m : Int) := by omega
      have w3 := IntWalk.i64_in ((j : Int) + 1) (by omega)
      clear hx hx' tl hys cj hg
      go_wp2_with fail
      refine HCP.out.mono ?_
      rintro e w4 ⟨y, rfl, i4, b4⟩
      obtain ⟨ya, yc, rfl⟩ := i4.len_eq
      have R4 := hR.out.below b4 (Nat.le_refl _)
      obtain ⟨st, _, ⟨old, hold⟩, hf⟩ := R4.store (by rw [hlj]; exact c) i4 (Nat.le_of_lt bB.out)
      rw [SL.out] at st
      have ST := Lib.hid st
      have hb4 : Hid (Below B w (w4.setCell ⟨B, j, none⟩ (.slice ya ys.length yc))) := (hBl.out.trans (b4.mono (Nat.le_of_lt bB.out))).setCell (Nat.le_refl _) _
      have sz : Hid ((w4.setCell ⟨B, j, none⟩ (.slice ya ys.length yc)).heap.size = w4.heap.size) := by unfold Hid; simp [World.setCell]
      clear i4 b4 R4 st
      go_wp2
      go_roundw
      case rel => exact ⟨j + 1, by omega, by go_num, by rw [sz.out]; exact ST, hb4⟩
      case measure => simp [intOf]; omega
    · have k1 : decide (j < m) = false := decide_eq_false c
      obtain rfl : j = m := by omega
      rw [FIN.out] at hR
      go_wp2
      go_ret
      exact ⟨_, rfl, by rw [HE.out]; exact hR.out, by rw [HE.out]; exact hBl.out⟩

theorem sz_row (q : Int) (v : Value) (xs : List Int) (w : World) (hv : IntsAt w v xs) (q0 : 0 ≤ q) (q1 : q ≤ 1048576) (hx : xs.length ≤ 9223372036854775807) :
    Calls Try.prog 14 #[v, .int .i64 q] w fun e w' => ∃ r : Int, e = .returned (.int .i64 r) ∧ (0 ≤ r → r = q - xs.length) ∧ -1 ≤ r ∧ w = w' := by
  obtain ⟨a, cap, rfl⟩ : ∃ a cap, v = .slice a xs.length cap := by
    obtain ⟨_, ⟨rfl, a, cap, rfl⟩ | ⟨g, off, cap, rfl, hc⟩⟩ := hv
    · exact ⟨a, cap, rfl⟩
    · exact ⟨_, cap, rfl⟩
  obtain ⟨n, hn⟩ : ∃ n, xs.length = n := ⟨_, rfl⟩
  rw [hn] at hx ⊢
  have w3 := IntWalk.i64_in (q - (n : Int)) (by omega)
  by_cases c : q - (n : Int) < 0
  · have t : decide (q - (n : Int) < 0) = true := decide_eq_true c
    clear hv hn c
    go_enter Try.func14, Try.ntmps14
    go_wp2
    go_ret
    exact ⟨-1, rfl, fun h => by omega, by omega, rfl⟩
  · have t : decide (q - (n : Int) < 0) = false := decide_eq_false c
    clear hv hn
    go_enter Try.func14, Try.ntmps14
    go_wp2
    go_ret
    exact ⟨q - n, rfl, fun _ => rfl, by omega, rfl⟩

theorem ahead2_succ {xss : List (List Int)} {j : Nat} (h : j < xss.length) : tot (xss.take (j + 1)) = tot (xss.take j) + (xss.getD j []).length := by
  rw [List.take_succ_eq_append_getElem h, tot_append]
  simp [tot, List.getD, List.getElem?_eq_getElem h]
set_option maxHeartbeats 1000000 in
theorem sz_rows (w : World) (v : Value) (xss : List (List Int)) (q : Int) (hv : RowsAt w v xss) (q0 : 0 ≤ q) (q1 : q ≤ 1048576) :
    Calls Try.prog 4 #[v, .int .i64 q] w fun e w' => ∃ r : Int, e = .returned (.int .i64 r) ∧ (0 ≤ r → ((xss.length + tot xss : Nat) : Int) ≤ q ∧ r ≤ q) ∧ ∃ n, w' = w.drewN n := by
  have hml := hv.1
  obtain ⟨a, cap, rfl, hc⟩ := hv.shape
  have HC := Lib.hid hc
  have HA := Lib.hid (fun j h => ahead2_succ (xss := xss) (j := j) h)
  have HZ : Hid (tot (xss.take xss.length) = tot xss) := by unfold Hid; rw [List.take_length]
  have a0 : tot (xss.take 0) = 0 := rfl
  obtain ⟨m, hm⟩ : ∃ m, xss.length = m := ⟨_, rfl⟩
  rw [hm] at HC HA HZ hml ⊢
  obtain ⟨t, ht⟩ : ∃ t, tot xss = t := ⟨_, rfl⟩
  rw [ht] at HZ ⊢
  have w2 := IntWalk.i64_in (q - (m : Int)) (by omega)
  clear hc hm ht hv
  by_cases c : q - (m : Int) < 0
  · have g : decide (q - (m : Int) < 0) = true := decide_eq_true c
    clear c
    go_enter Try.func4, Try.ntmps4
    go_wp2
    go_ret
    exact ⟨-1, rfl, fun h => by omega, 0, rfl⟩
  have g : decide (q - (m : Int) < 0) = false := decide_eq_false c
  go_enter Try.func4, Try.ntmps4
  go_wp2
  go_loop [1, 5] (fun u i => ∃ (j : Nat) (r : Int), j ≤ m ∧ i = .int .i64 j ∧ u = .int .i64 r ∧ 0 ≤ r ∧ r = q - m - (tot (xss.take j) : Nat)) (fun _ i => m - (intOf i).toNat)
  case atStart => exact ⟨0, q - m, by omega, rfl, rfl, by omega, by rw [a0]; simp⟩
  case round =>
    obtain ⟨j, r, hj, rfl, rfl, hr0, hr⟩ := hrel
    by_cases c : j < m
    · have g1 : decide (j < m) = true := by simpa using c
      obtain ⟨g, off, x, rfl, c1, hx⟩ := HC.out j c
      have hs := HA.out j c
      obtain ⟨zs, hz⟩ : ∃ zs, xss.getD j [] = zs := ⟨_, rfl⟩
      rw [hz] at hx hs
      have HH := Lib.hid (sz_row r x zs w hx hr0 (by omega) hx.1)
      have hr' := Lib.hid hr
      have hs' := Lib.hid hs
      have j0 : (0 : Int) ≤ (j : Int) := by omega
      have j1 : (j : Int) < (m : Int) := by omega
      have w3 := IntWalk.i64_in ((j : Int) + 1) (by omega)
      clear hx hz hr hs
      go_wp2_with fail
      refine HH.out.mono ?_
      rintro e w' ⟨r2, rfl, hr2, hr3, rfl⟩
      by_cases d : r2 < 0
      · have g2 : decide (r2 < 0) = true := decide_eq_true d
        clear d hr2
        go_wp2
        go_ret
        exact ⟨-1, rfl, fun h => by omega, 0, rfl⟩
      · have g2 : decide (r2 < 0) = false := decide_eq_false d
        have e2 := Lib.hid (hr2 (by omega))
        clear hr2
        go_wp2
        go_round
        case rel => exact ⟨j + 1, r2, by omega, by go_num, rfl, by omega, by have := e2.out; have := hr'.out; rw [hs'.out]; omega⟩
        case measure => simp [intOf]; omega
    · have g1 : decide (j < m) = false := by simpa using c
      obtain rfl : j = m := by omega
      have hr' := Lib.hid hr
      clear hr
      go_wp2
      go_ret
      exact ⟨r, rfl, fun _ => by have := hr'.out; rw [HZ.out] at this; omega, 0, rfl⟩
end Go.Proofs.Ytodlcjdbpibacaa
