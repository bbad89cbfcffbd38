/- SumDesigns: the law. -/
import Derived.Test.YtdhlnagkhkcoiaaDoorSdm
import Derived.Test.YtdhlnagkhkcoiaaDoorDst
namespace Go.Proofs.YtdhlnagkhkcoiaaDoor
open Go.RowKit
set_option linter.unusedVariables false
set_option linter.unusedSimpArgs false

theorem RowsL.shapeN {w : World} {B L : Nat} {v : Value} {xss : List (List Int)} (h : RowsL w B L v xss) : v = .slice none 0 0 ∨ ∃ g off l c, v = .slice (some ⟨g, off, none⟩) l c := by
  obtain ⟨us, e, ho, -⟩ := h
  rcases ho.2 with ⟨rfl, _⟩ | ⟨g, cap, cur, rfl, _⟩
  · exact .inl rfl
  · exact .inr ⟨g, 0, _, _, rfl⟩
theorem RowsL.belowS {w w' : World} {B L B' : Nat} {v : Value} {xss : List (List Int)} (h : RowsL w B L v xss) (hb : Below B' w w') (hs : L ≤ B') : RowsL w' B L v xss := by
  obtain ⟨us, e, ho, h1, h2, hr, hd⟩ := h
  exact ⟨us, e, ownsRow_of_block ho (fun k e => hb.block k (by have := h1 k e; omega)), h1, Nat.le_trans h2 hb.size,
    fun j hj => ⟨ownsRow_of_block (hr j hj).1 (fun k e => hb.block k (by have := (hr j hj).2.1 k e; omega)), (hr j hj).2.1, Nat.le_trans h2 hb.size⟩, hd⟩
/-- A design that was stored into new zeros. -/
theorem Cpy.stored {w : World} {b : Nat} (n : Int) {v : Value} {xs : List (List Int)} (h : RowsL w b w.heap.size v xs) (hb : b ≤ w.heap.size) (J : Nat) (hJ : w.heap.size = J) :
    Hid (Cpy J b n v 27 xs (((w.alloc (.cells #[.int .i64 0, .slice none 0 0] 27)).setCell ⟨J, 0, none⟩ (.int .i64 n)).setCell ⟨J, 1, none⟩ v)) ∧ Below J w (((w.alloc (.cells #[.int .i64 0, .slice none 0 0] 27)).setCell ⟨J, 0, none⟩ (.int .i64 n)).setCell ⟨J, 1, none⟩ v) := by
  subst hJ
  have bb : Below w.heap.size w (((w.alloc (.cells #[.int .i64 0, .slice none 0 0] 27)).setCell ⟨w.heap.size, 0, none⟩ (.int .i64 n)).setCell ⟨w.heap.size, 1, none⟩ v) :=
    (((Below.refl _ _).alloc (Nat.le_refl _) _).setCell (p := ⟨w.heap.size, 0, none⟩) (Nat.le_refl _) _).setCell (p := ⟨w.heap.size, 1, none⟩) (Nat.le_refl _) _
  exact ⟨⟨set2_row _ _ _ _ _ _ _ (heap_alloc_new w _), h.belowS bb (Nat.le_refl _), hb⟩, bb⟩

theorem bel_next {w W W' : World} (h : Hid (Below w.heap.size w W)) (hb : Below W.heap.size W W') : Hid (Below w.heap.size w W') := h.out.trans (hb.mono h.out.size)
theorem bel_mark {w W W' : World} {B L : Nat} (h : Hid (Below w.heap.size w W)) (m : Marked B L W W') (hB : w.heap.size ≤ B) : Hid (Below w.heap.size w W') := h.out.trans (m.below.mono hB)
theorem bel_set {w W : World} {P : Nat} (h : Hid (Below w.heap.size w W)) (hP : w.heap.size ≤ P) (a b : Value) : Hid (Below w.heap.size w ((W.setCell ⟨P, 0, none⟩ a).setCell ⟨P, 1, none⟩ b)) :=
  (h.out.setCell (p := ⟨P, 0, none⟩) hP _).setCell (p := ⟨P, 1, none⟩) hP _
theorem Arg.set {w W : World} {A P : Nat} {n : Int} {v : Value} {T : TypeId} {xs : List (List Int)} (h : Hid (Arg w A n v T xs W)) (hP : A < P) (a b : Value) : Hid (Arg w A n v T xs ((W.setCell ⟨P, 0, none⟩ a).setCell ⟨P, 1, none⟩ b)) := by
  obtain ⟨h1, h2, h3, h4⟩ := h.out
  refine ⟨h1, h2, ?_, (h4.setCell (p := ⟨P, 0, none⟩) (by show w.heap.size ≤ P; omega) _).setCell (p := ⟨P, 1, none⟩) (by show w.heap.size ≤ P; omega) _⟩
  unfold Gb at h3 ⊢
  rw [Below.heap_setCell _ _ _ A (by show A ≠ P; omega), Below.heap_setCell _ _ _ A (by show A ≠ P; omega)]
  exact h3
theorem Cpy.set {W : World} {X b P : Nat} {n : Int} {v : Value} {T : TypeId} {xs : List (List Int)} (h : Hid (Cpy X b n v T xs W)) (hP : X < P) (c d : Value) : Hid (Cpy X b n v T xs ((W.setCell ⟨P, 0, none⟩ c).setCell ⟨P, 1, none⟩ d)) := by
  obtain ⟨h1, h2, h3⟩ := h.out
  refine ⟨?_, h2.belowS (((Below.refl P W).setCell (p := ⟨P, 0, none⟩) (Nat.le_refl _) _).setCell (p := ⟨P, 1, none⟩) (Nat.le_refl _) _) (by omega), h3⟩
  unfold Gb at h1 ⊢
  rw [Below.heap_setCell _ _ _ X (by show X ≠ P; omega), Below.heap_setCell _ _ _ X (by show X ≠ P; omega)]
  exact h1

set_option maxRecDepth 100000 in
set_option maxHeartbeats 32000000 in
theorem law_FnExactSumDesigns (n : Int) (v0 : Value) (xs : List (List Int)) (n2 : Int) (v1 : Value) (ys : List (List Int)) (w : World) (_ : (Lit.int .i64 n).wf = true) (hv : RowsAt w v0 xs) (hx : ∀ r ∈ xs, ∀ x ∈ r, I64 x) (_ : (Lit.int .i64 n2).wf = true) (hv' : RowsAt w v1 ys) (hy : ∀ r ∈ ys, ∀ x ∈ r, I64 x) (ht : Tab w) :
    Calls Tryd.prog 7 #[.agg #[.int .i64 n, v0], .agg #[.int .i64 n2, v1]] w fun e w' => e = .returned (.bool true) ∧ Below w.heap.size w w' := by
  obtain ⟨a, cap, rfl, -⟩ := hv.shape
  obtain ⟨a', cap', rfl, -⟩ := hv'.shape
  obtain ⟨len, hlen⟩ : ∃ l, xs.length = l := ⟨_, rfl⟩
  obtain ⟨len', hlen'⟩ : ∃ l, ys.length = l := ⟨_, rfl⟩
  rw [hlen] at hv ⊢
  rw [hlen'] at hv' ⊢
  have HL := Lib.hid hlen
  have HL' := Lib.hid hlen'
  have S1 := Arg.new n 24 hv
  have hpos := ht.pos
  have TB := Lib.hid (fun W (h : Below w.heap.size w W) => ht.below h hpos)
  have HZ := Lib.hid (fun W (h : RowsAt W (.slice a len cap) xs) => sz_Design W n _ xs 1048576 h (by omega) (by omega))
  have HZ' := Lib.hid (fun (q : Int) (q0 : 0 ≤ q) (q1 : q ≤ 1048576) W (h : RowsAt W (.slice a' len' cap') ys) => sz_Design W n2 _ ys q h q0 q1)
  have HS := fun W v u h h' k k' => sSumDesigns n xs n2 ys W v u h h' k k'
  have HI0 := Lib.hid (fun hl hl' W v u h h' t => iSumDesigns n xs n2 ys hl hl' W v u h h' t)
  have LT := totSumDesigns n xs n2 ys
  obtain ⟨zn, hzn⟩ : ∃ z, SumDesigns_N n xs n2 ys = z := ⟨_, rfl⟩
  obtain ⟨zl, hzl⟩ : ∃ z, SumDesigns_L n xs n2 ys = z := ⟨_, rfl⟩
  obtain ⟨zc, hzc⟩ : ∃ z, SumDesigns_C n xs n2 ys = z := ⟨_, rfl⟩
  rw [hzl] at LT
  simp only [hzn, hzl, hzc] at HS HI0
  have HS := Lib.hid HS
  have tzc : (zc != zc) = false := by simp
  have b1 : Below w.heap.size w (w.alloc (.cells #[.int .i64 n, .slice a len cap] 24)) := (Below.refl _ _).alloc (Nat.le_refl _) _
  have z1 := World.size_alloc w (.cells #[.int .i64 n, .slice a len cap] 24)
  have hv2 := hv'.below b1 (Nat.le_refl _)
  obtain ⟨w1, hw1⟩ : ∃ w1, w.alloc (.cells #[.int .i64 n, .slice a len cap] 24) = w1 := ⟨_, rfl⟩
  obtain ⟨A, hA⟩ : ∃ A, w.heap.size = A := ⟨_, rfl⟩
  rw [hw1, hA] at S1
  rw [hw1] at hv2 z1
  rw [hA] at z1
  have S1' := Arg.new n2 24 hv2
  have b12 : Below w1.heap.size w1 (w1.alloc (.cells #[.int .i64 n2, .slice a' len' cap'] 24)) := (Below.refl _ _).alloc (Nat.le_refl _) _
  obtain ⟨w2, hw2⟩ : ∃ w2, w1.alloc (.cells #[.int .i64 n2, .slice a' len' cap'] 24) = w2 := ⟨_, rfl⟩
  obtain ⟨A', hA'⟩ : ∃ A, w1.heap.size = A := ⟨_, rfl⟩
  rw [hw2, hA'] at S1'
  rw [hw2] at b12
  have S1 := Arg.next S1 b12
  have AA : A < A' := by omega
  clear hzn hzl hzc hv hx hlen hlen' ht hpos hv' hy b1 hv2 b12 z1
  obtain ⟨c0, c1⟩ := S1.out.2.2.1.cells
  go_enter Tryd.func7, Tryd.ntmps7
  go_wp2_with fail
  try rw [hw1]
  try rw [hw2]
  refine (HZ.out _ (Arg.rows S1)).mono ?_
  rintro e w3 ⟨q, rfl, hq, b3⟩
  have S3 := Arg.next S1 b3
  have S3' := Arg.next S1' b3
  clear b3 c0 c1 hw1 hw2 HZ S1 S1'
  by_cases k : q < 0
  · have t : decide (q < 0) = true := decide_eq_true k
    go_wp2
    go_ret
    exact ⟨rfl, by first | exact S3.out.2.2.2 | (rw [← hA]; exact S3.out.2.2.2)⟩
  have t : decide (q < 0) = false := decide_eq_false k
  obtain ⟨hq1, hq2⟩ := hq (by omega)
  obtain ⟨c0, c1⟩ := S3'.out.2.2.1.cells
  go_wp2_with fail
  refine (HZ'.out q (by omega) hq2 _ (Arg.rows S3')).mono ?_
  rintro e w4 ⟨q', rfl, hq', b4⟩
  have S4 := Arg.next S3 b4
  have S4' := Arg.next S3' b4
  clear b4 c0 c1 HZ' S3 S3'
  by_cases k' : q' < 0
  · have t' : decide (q' < 0) = true := decide_eq_true k'
    go_wp2
    go_ret
    exact ⟨rfl, S4.out.2.2.2⟩
  have t' : decide (q' < 0) = false := decide_eq_false k'
  obtain ⟨hq3, -⟩ := hq' (by omega)
  have TQ : tot xs ≤ 1048576 := by omega
  have TQ' : tot ys ≤ 1048576 := by omega
  have LX : xs.length ≤ 1048576 := by omega
  have LY : ys.length ≤ 1048576 := by omega
  have HTo := Lib.hid (fun W (h : RowsAt W (.slice a len cap) xs) => copy_Design W n _ xs h (by omega))
  have HTo' := Lib.hid (fun W (h : RowsAt W (.slice a' len' cap') ys) => copy_Design W n2 _ ys h (by omega))
  have HI := Lib.hid (HI0.out LX LY)
  have HE := Lib.hid (fun u u' W (h1 : RowsAt W u xs) (h2 : RowsAt W u' xs) => eq_Design W n u u' xs h1 h2)
  have HE' := Lib.hid (fun u u' W (h1 : RowsAt W u ys) (h2 : RowsAt W u' ys) => eq_Design W n2 u u' ys h1 h2)
  clear hq hq' HI0 hq1 hq2 hq3
  have S := Arg.next S4 (Below.refl _ _).drew
  have S' := Arg.next S4' (Below.refl _ _).drew
  clear S4 S4'
  go_wp2
  refine wp_region_held_drew (S := fun w' => (w'.cell? ⟨A, 0, none⟩ = some (.int .i64 n) ∧ w'.cell? ⟨A, 1, none⟩ = some (.slice a len cap)) ∧ (w'.cell? ⟨A', 0, none⟩ = some (.int .i64 n2) ∧ w'.cell? ⟨A', 1, none⟩ = some (.slice a' len' cap'))) (by kernel_rfl) ⟨S.out.2.2.1.cells, S'.out.2.2.1.cells⟩ (fun hHeld => ?_)
  refine wpAnyH_take (i := 0) (oi := { dst := some 28, op := Op.load 24 (Operand.tmp 2), type := 24, pos := "exact.go:5371", after := #[], guard := none }) (v := ?_) rfl (by kernel_rfl) (by kernel_rfl) (by kernel_rfl) (fun _ _ _ h => h) (Or.inl ⟨by rfl, ?_⟩) (by assumption) ?_
  rotate_left
  · intro w hSw; (try dsimp only at hSw); go_simp
    try with_reducible rfl
  simp only [Act.put, List.setIfInBounds_toArray, List.set_cons_zero, List.set_cons_succ]
  refine wpAnyH_take (i := 2) (oi := { dst := some 30, op := Op.load 24 (Operand.tmp 3), type := 24, pos := "exact.go:5371", after := #[], guard := none }) (v := ?_) rfl (by kernel_rfl) (by kernel_rfl) (by kernel_rfl) (fun _ _ _ h => h) (Or.inl ⟨by rfl, ?_⟩) (by assumption) ?_
  rotate_left
  · intro w hSw; (try dsimp only at hSw); go_simp
    try with_reducible rfl
  simp only [Act.put, List.setIfInBounds_toArray, List.set_cons_zero, List.set_cons_succ]
  refine wpAnyH_ready (rs := [1, 8]) (by kernel_rfl) (by simp) ?_
  refine AllReadyH.cons rfl (fun K' hK' => ?_) (AllReadyH.cons rfl (fun K' hK' => ?_) AllReadyH.nil)
  focus
    go_simp
    go_wp2_with fail
    refine (HTo.out _ (Arg.rows S)).mono ?_
    rintro e wv ⟨v29, rfl, i1, bA⟩
    have S := Arg.next S bA
    have S' := Arg.next S' bA
    have N29 := Lib.hid i1.shapeN
    have I29 := Lib.hid i1.at
    refine hK'.out _ _ ⟨S.out.2.2.1.cells, S'.out.2.2.1.cells⟩ (fun hHeld => ?_)
    clear hK' K'
    clear i1 bA
    refine wpAnyH_ready (rs := [3, 8]) (by kernel_rfl) (by simp) ?_
    refine AllReadyH.cons rfl (fun K' hK' => ?_) (AllReadyH.cons rfl (fun K' hK' => ?_) AllReadyH.nil)
    focus
      go_simp
      go_wp2_with fail
      refine (HTo'.out _ (Arg.rows S')).mono ?_
      rintro e wv ⟨v31, rfl, i1, bA⟩
      have S := Arg.next S bA
      have S' := Arg.next S' bA
      have N31 := Lib.hid i1.shapeN
      have I31 := Lib.hid i1.at
      have I29 := Lib.hid (I29.out.below bA (Nat.le_refl _))
      refine hK'.out _ _ ⟨S.out.2.2.1.cells, S'.out.2.2.1.cells⟩ (fun hHeld => ?_)
      clear hK' K'
      clear i1 bA
      refine wpAnyH_ready (rs := [4, 8]) (by kernel_rfl) (by simp) ?_
      refine AllReadyH.cons rfl (fun K' hK' => ?_) (AllReadyH.cons rfl (fun K' hK' => ?_) AllReadyH.nil)
      focus
        obtain ⟨b0, hb0⟩ : ∃ b, (wv).heap.size = b := ⟨_, rfl⟩
        go_simp
        go_wp2_with fail
        refine (HS.out _ _ _ I29.out I31.out N29.out N31.out).mono ?_
        rintro e wv ⟨u4, rfl, i4, bA⟩
        obtain ⟨a4, l4, q4, rfl⟩ : ∃ a l c, u4 = .slice a l c := by obtain ⟨a, c, e, -⟩ := i4.at.shape; exact ⟨a, _, c, e⟩
        have S := Arg.next S bA
        have S' := Arg.next S' bA
        rw [hb0] at i4
        have R4 := Lib.hid i4
        refine hK'.out _ _ ⟨S.out.2.2.1.cells, S'.out.2.2.1.cells⟩ (fun hHeld => ?_)
        clear hK' K'
        clear i4 bA I29 I31 N29 N31
        refine wpAnyH_take (i := 5) (oi := { dst := some 27, op := Op.move (Operand.tmp 32), type := 41, pos := "exact.go:5371", after := #[{ on := 4, ground := Ground.data }], guard := none }) (v := ?_) rfl (by kernel_rfl) (by kernel_rfl) (by kernel_rfl) (fun _ _ _ h => h) (Or.inl ⟨by rfl, ?_⟩) (by assumption) ?_
        rotate_left
        · intro w hSw; (try dsimp only at hSw); go_simp
          try with_reducible rfl
        simp only [Act.put, List.setIfInBounds_toArray, List.set_cons_zero, List.set_cons_succ]
        refine wpAnyH_take (i := 6) (oi := { dst := some 33, op := Op.extract (Operand.tmp 27) 0, type := 27, pos := "exact.go:5371", after := #[{ on := 5, ground := Ground.data }], guard := none }) (v := ?_) rfl (by kernel_rfl) (by kernel_rfl) (by kernel_rfl) (fun _ _ _ h => h) (Or.inl ⟨by rfl, ?_⟩) (by assumption) ?_
        rotate_left
        · intro w hSw; (try dsimp only at hSw); go_simp
          try with_reducible rfl
        simp only [Act.put, List.setIfInBounds_toArray, List.set_cons_zero, List.set_cons_succ]
        refine wpAnyH_take (i := 7) (oi := { dst := some 34, op := Op.extract (Operand.tmp 27) 1, type := 2, pos := "exact.go:5371", after := #[{ on := 5, ground := Ground.data }, { on := 9, ground := Ground.gcOnly Departure.lateStores }], guard := none }) (v := ?_) rfl (by kernel_rfl) (by kernel_rfl) (by kernel_rfl) (fun _ _ _ h => h) (Or.inl ⟨by rfl, ?_⟩) (by assumption) ?_
        rotate_left
        · intro w hSw; (try dsimp only at hSw); go_simp
          try with_reducible rfl
        simp only [Act.put, List.setIfInBounds_toArray, List.set_cons_zero, List.set_cons_succ]
        refine wpAnyH_ready (rs := [8]) (by kernel_rfl) (by simp) ?_
        refine AllReadyH.cons rfl (fun K' hK' => ?_) AllReadyH.nil
        go_simp
        obtain ⟨P0, hP0⟩ : ∃ P, (wv).heap.size = P := ⟨_, rfl⟩
        have bz : Below (wv).heap.size (wv) ((wv).alloc (.cells #[.int .i64 0, .slice none 0 0] 27)) := (Below.refl _ _).alloc (Nat.le_refl _) _
        have AP : A' < P0 := by rw [← hP0]; exact S'.out.2.2.1.lt
        have S := Arg.next S bz
        have S' := Arg.next S' bz
        have Z : Hid (Gb ((wv).alloc (.cells #[.int .i64 0, .slice none 0 0] 27)) P0 0 (.slice none 0 0) 27) := by rw [← hP0]; exact heap_alloc_new _ _
        have R4 := Lib.hid (R4.out.belowS bz (Nat.le_refl _))
        rw [hP0] at R4
        obtain ⟨wy, hwy⟩ : ∃ w', (wv).alloc (.cells #[.int .i64 0, .slice none 0 0] 27) = w' := ⟨_, rfl⟩
        rw [hwy] at Z S S' R4
        try rw [hP0]
        rw [hwy]
        refine hK'.out _ _ ⟨S.out.2.2.1.cells, S'.out.2.2.1.cells⟩ (fun hHeld => ?_)
        clear hK' K'
        clear bz hwy
        refine wpAnyH_ready (rs := [9]) (by kernel_rfl) (by simp) ?_
        refine AllReadyH.cons rfl (fun K' hK' => ?_) AllReadyH.nil
        obtain ⟨d0, d1, f0, f1⟩ := cells2 _ P0 _ _ _ Z.out
        go_simp
        have S := Arg.set S (show A < P0 by omega) (.int .i64 zn) (.slice a4 l4 q4)
        have S' := Arg.set S' AP (.int .i64 zn) (.slice a4 l4 q4)
        have GC : Hid (Gb ((wy.setCell ⟨P0, 0, none⟩ (.int .i64 zn)).setCell ⟨P0, 1, none⟩ (.slice a4 l4 q4)) P0 zn (.slice a4 l4 q4) 27) := set2_row _ _ _ _ _ _ _ Z.out
        have RC := Lib.hid (R4.out.belowS (((Below.refl P0 wy).setCell (p := ⟨P0, 0, none⟩) (Nat.le_refl _) (.int .i64 zn)).setCell (p := ⟨P0, 1, none⟩) (Nat.le_refl _) (.slice a4 l4 q4)) (Nat.le_refl _)).at
        refine hK'.out _ _ ⟨S.out.2.2.1.cells, S'.out.2.2.1.cells⟩ (fun hHeld => ?_)
        clear hK' K'
        refine wpAnyH_take (i := 10) (oi := { dst := some 7, op := Op.assign (Operand.tmp 34), type := 2, pos := "exact.go:5371", after := #[{ on := 7, ground := Ground.data }, { on := 9, ground := Ground.chain }, { on := 0, ground := Ground.phase }, { on := 1, ground := Ground.phase }, { on := 2, ground := Ground.phase }, { on := 3, ground := Ground.phase }, { on := 4, ground := Ground.phase }, { on := 5, ground := Ground.phase }, { on := 6, ground := Ground.phase }, { on := 7, ground := Ground.phase }, { on := 8, ground := Ground.phase }, { on := 9, ground := Ground.phase }], guard := none }) (v := ?_) rfl (by kernel_rfl) (by kernel_rfl) (by kernel_rfl) (fun _ _ _ h => h) (Or.inl ⟨by rfl, ?_⟩) (by assumption) ?_
        rotate_left
        · intro w hSw; (try dsimp only at hSw); go_simp
          try with_reducible rfl
        simp only [Act.put, List.setIfInBounds_toArray, List.set_cons_zero, List.set_cons_succ]
        refine wpAnyH_done (by kernel_rfl) ?_ _
        clear hHeld
        obtain ⟨w9, hw9⟩ : ∃ W, (wy.setCell ⟨P0, 0, none⟩ (.int .i64 zn)).setCell ⟨P0, 1, none⟩ (.slice a4 l4 q4) = W := ⟨_, rfl⟩
        rw [hw9] at GC RC S S'
        rw [hw9]
        clear d0 d1 f0 f1 hw9 R4 Z AP hP0 hb0
      rotate_left 1
      focus
        go_simp
        obtain ⟨P0, hP0⟩ : ∃ P, (wv).heap.size = P := ⟨_, rfl⟩
        have bz : Below (wv).heap.size (wv) ((wv).alloc (.cells #[.int .i64 0, .slice none 0 0] 27)) := (Below.refl _ _).alloc (Nat.le_refl _) _
        have AP : A' < P0 := by rw [← hP0]; exact S'.out.2.2.1.lt
        have S := Arg.next S bz
        have S' := Arg.next S' bz
        have Z : Hid (Gb ((wv).alloc (.cells #[.int .i64 0, .slice none 0 0] 27)) P0 0 (.slice none 0 0) 27) := by rw [← hP0]; exact heap_alloc_new _ _
        have I29 := Lib.hid (I29.out.below bz (Nat.le_refl _))
        have I31 := Lib.hid (I31.out.below bz (Nat.le_refl _))
        obtain ⟨wy, hwy⟩ : ∃ w', (wv).alloc (.cells #[.int .i64 0, .slice none 0 0] 27) = w' := ⟨_, rfl⟩
        rw [hwy] at Z S S' I29 I31
        try rw [hP0]
        rw [hwy]
        refine hK'.out _ _ ⟨S.out.2.2.1.cells, S'.out.2.2.1.cells⟩ (fun hHeld => ?_)
        clear hK' K'
        clear bz hwy
        refine wpAnyH_ready (rs := [4]) (by kernel_rfl) (by simp) ?_
        refine AllReadyH.cons rfl (fun K' hK' => ?_) AllReadyH.nil
        obtain ⟨b0, hb0⟩ : ∃ b, (wy).heap.size = b := ⟨_, rfl⟩
        have zb : P0 < b0 := by rw [← hb0]; exact Z.out.lt
        go_simp
        go_wp2_with fail
        refine (HS.out _ _ _ I29.out I31.out N29.out N31.out).mono ?_
        rintro e wv ⟨u4, rfl, i4, bA⟩
        obtain ⟨a4, l4, q4, rfl⟩ : ∃ a l c, u4 = .slice a l c := by obtain ⟨a, c, e, -⟩ := i4.at.shape; exact ⟨a, _, c, e⟩
        have S := Arg.next S bA
        have S' := Arg.next S' bA
        have Z := Lib.hid (Gb.next Z.out bA)
        rw [hb0] at i4
        have R4 := Lib.hid i4
        refine hK'.out _ _ ⟨S.out.2.2.1.cells, S'.out.2.2.1.cells⟩ (fun hHeld => ?_)
        clear hK' K'
        clear i4 bA I29 I31 N29 N31
        refine wpAnyH_take (i := 5) (oi := { dst := some 27, op := Op.move (Operand.tmp 32), type := 41, pos := "exact.go:5371", after := #[{ on := 4, ground := Ground.data }], guard := none }) (v := ?_) rfl (by kernel_rfl) (by kernel_rfl) (by kernel_rfl) (fun _ _ _ h => h) (Or.inl ⟨by rfl, ?_⟩) (by assumption) ?_
        rotate_left
        · intro w hSw; (try dsimp only at hSw); go_simp
          try with_reducible rfl
        simp only [Act.put, List.setIfInBounds_toArray, List.set_cons_zero, List.set_cons_succ]
        refine wpAnyH_take (i := 6) (oi := { dst := some 33, op := Op.extract (Operand.tmp 27) 0, type := 27, pos := "exact.go:5371", after := #[{ on := 5, ground := Ground.data }], guard := none }) (v := ?_) rfl (by kernel_rfl) (by kernel_rfl) (by kernel_rfl) (fun _ _ _ h => h) (Or.inl ⟨by rfl, ?_⟩) (by assumption) ?_
        rotate_left
        · intro w hSw; (try dsimp only at hSw); go_simp
          try with_reducible rfl
        simp only [Act.put, List.setIfInBounds_toArray, List.set_cons_zero, List.set_cons_succ]
        refine wpAnyH_take (i := 7) (oi := { dst := some 34, op := Op.extract (Operand.tmp 27) 1, type := 2, pos := "exact.go:5371", after := #[{ on := 5, ground := Ground.data }, { on := 9, ground := Ground.gcOnly Departure.lateStores }], guard := none }) (v := ?_) rfl (by kernel_rfl) (by kernel_rfl) (by kernel_rfl) (fun _ _ _ h => h) (Or.inl ⟨by rfl, ?_⟩) (by assumption) ?_
        rotate_left
        · intro w hSw; (try dsimp only at hSw); go_simp
          try with_reducible rfl
        simp only [Act.put, List.setIfInBounds_toArray, List.set_cons_zero, List.set_cons_succ]
        refine wpAnyH_ready (rs := [9]) (by kernel_rfl) (by simp) ?_
        refine AllReadyH.cons rfl (fun K' hK' => ?_) AllReadyH.nil
        obtain ⟨d0, d1, f0, f1⟩ := cells2 _ P0 _ _ _ Z.out
        go_simp
        have S := Arg.set S (show A < P0 by omega) (.int .i64 zn) (.slice a4 l4 q4)
        have S' := Arg.set S' AP (.int .i64 zn) (.slice a4 l4 q4)
        have GC : Hid (Gb ((wv.setCell ⟨P0, 0, none⟩ (.int .i64 zn)).setCell ⟨P0, 1, none⟩ (.slice a4 l4 q4)) P0 zn (.slice a4 l4 q4) 27) := set2_row _ _ _ _ _ _ _ Z.out
        have RC := Lib.hid (RowsL.off2 R4.out zb (.int .i64 zn) (.slice a4 l4 q4)).at
        refine hK'.out _ _ ⟨S.out.2.2.1.cells, S'.out.2.2.1.cells⟩ (fun hHeld => ?_)
        clear hK' K'
        refine wpAnyH_take (i := 10) (oi := { dst := some 7, op := Op.assign (Operand.tmp 34), type := 2, pos := "exact.go:5371", after := #[{ on := 7, ground := Ground.data }, { on := 9, ground := Ground.chain }, { on := 0, ground := Ground.phase }, { on := 1, ground := Ground.phase }, { on := 2, ground := Ground.phase }, { on := 3, ground := Ground.phase }, { on := 4, ground := Ground.phase }, { on := 5, ground := Ground.phase }, { on := 6, ground := Ground.phase }, { on := 7, ground := Ground.phase }, { on := 8, ground := Ground.phase }, { on := 9, ground := Ground.phase }], guard := none }) (v := ?_) rfl (by kernel_rfl) (by kernel_rfl) (by kernel_rfl) (fun _ _ _ h => h) (Or.inl ⟨by rfl, ?_⟩) (by assumption) ?_
        rotate_left
        · intro w hSw; (try dsimp only at hSw); go_simp
          try with_reducible rfl
        simp only [Act.put, List.setIfInBounds_toArray, List.set_cons_zero, List.set_cons_succ]
        refine wpAnyH_done (by kernel_rfl) ?_ _
        clear hHeld
        obtain ⟨w9, hw9⟩ : ∃ W, (wv.setCell ⟨P0, 0, none⟩ (.int .i64 zn)).setCell ⟨P0, 1, none⟩ (.slice a4 l4 q4) = W := ⟨_, rfl⟩
        rw [hw9] at GC RC S S'
        rw [hw9]
        clear d0 d1 f0 f1 hw9 R4 Z AP hP0 hb0 zb
    rotate_left 2
    focus
      go_simp
      obtain ⟨P0, hP0⟩ : ∃ P, (wv).heap.size = P := ⟨_, rfl⟩
      have bz : Below (wv).heap.size (wv) ((wv).alloc (.cells #[.int .i64 0, .slice none 0 0] 27)) := (Below.refl _ _).alloc (Nat.le_refl _) _
      have AP : A' < P0 := by rw [← hP0]; exact S'.out.2.2.1.lt
      have S := Arg.next S bz
      have S' := Arg.next S' bz
      have Z : Hid (Gb ((wv).alloc (.cells #[.int .i64 0, .slice none 0 0] 27)) P0 0 (.slice none 0 0) 27) := by rw [← hP0]; exact heap_alloc_new _ _
      have I29 := Lib.hid (I29.out.below bz (Nat.le_refl _))
      -- have I31 := Lib.hid (I31.out.below bz (Nat.le_refl _))
      obtain ⟨wy, hwy⟩ : ∃ w', (wv).alloc (.cells #[.int .i64 0, .slice none 0 0] 27) = w' := ⟨_, rfl⟩
      rw [hwy] at Z S S' I29
      try rw [hP0]
      rw [hwy]
      refine hK'.out _ _ ⟨S.out.2.2.1.cells, S'.out.2.2.1.cells⟩ (fun hHeld => ?_)
      clear hK' K'
      clear bz hwy
      refine wpAnyH_ready (rs := [3]) (by kernel_rfl) (by simp) ?_
      refine AllReadyH.cons rfl (fun K' hK' => ?_) AllReadyH.nil
      go_simp
      go_wp2_with fail
      refine (HTo'.out _ (Arg.rows S')).mono ?_
      rintro e wv ⟨v31, rfl, i1, bA⟩
      have S := Arg.next S bA
      have S' := Arg.next S' bA
      have Z := Lib.hid (Gb.next Z.out bA)
      have N31 := Lib.hid i1.shapeN
      have I31 := Lib.hid i1.at
      have I29 := Lib.hid (I29.out.below bA (Nat.le_refl _))
      refine hK'.out _ _ ⟨S.out.2.2.1.cells, S'.out.2.2.1.cells⟩ (fun hHeld => ?_)
      clear hK' K'
      clear i1 bA
      refine wpAnyH_ready (rs := [4]) (by kernel_rfl) (by simp) ?_
      refine AllReadyH.cons rfl (fun K' hK' => ?_) AllReadyH.nil
      obtain ⟨b0, hb0⟩ : ∃ b, (wv).heap.size = b := ⟨_, rfl⟩
      have zb : P0 < b0 := by rw [← hb0]; exact Z.out.lt
      go_simp
      go_wp2_with fail
      refine (HS.out _ _ _ I29.out I31.out N29.out N31.out).mono ?_
      rintro e wv ⟨u4, rfl, i4, bA⟩
      obtain ⟨a4, l4, q4, rfl⟩ : ∃ a l c, u4 = .slice a l c := by obtain ⟨a, c, e, -⟩ := i4.at.shape; exact ⟨a, _, c, e⟩
      have S := Arg.next S bA
      have S' := Arg.next S' bA
      have Z := Lib.hid (Gb.next Z.out bA)
      rw [hb0] at i4
      have R4 := Lib.hid i4
      refine hK'.out _ _ ⟨S.out.2.2.1.cells, S'.out.2.2.1.cells⟩ (fun hHeld => ?_)
      clear hK' K'
      clear i4 bA I29 I31 N29 N31
      refine wpAnyH_take (i := 5) (oi := { dst := some 27, op := Op.move (Operand.tmp 32), type := 41, pos := "exact.go:5371", after := #[{ on := 4, ground := Ground.data }], guard := none }) (v := ?_) rfl (by kernel_rfl) (by kernel_rfl) (by kernel_rfl) (fun _ _ _ h => h) (Or.inl ⟨by rfl, ?_⟩) (by assumption) ?_
      rotate_left
      · intro w hSw; (try dsimp only at hSw); go_simp
        try with_reducible rfl
      simp only [Act.put, List.setIfInBounds_toArray, List.set_cons_zero, List.set_cons_succ]
      refine wpAnyH_take (i := 6) (oi := { dst := some 33, op := Op.extract (Operand.tmp 27) 0, type := 27, pos := "exact.go:5371", after := #[{ on := 5, ground := Ground.data }], guard := none }) (v := ?_) rfl (by kernel_rfl) (by kernel_rfl) (by kernel_rfl) (fun _ _ _ h => h) (Or.inl ⟨by rfl, ?_⟩) (by assumption) ?_
      rotate_left
      · intro w hSw; (try dsimp only at hSw); go_simp
        try with_reducible rfl
      simp only [Act.put, List.setIfInBounds_toArray, List.set_cons_zero, List.set_cons_succ]
      refine wpAnyH_take (i := 7) (oi := { dst := some 34, op := Op.extract (Operand.tmp 27) 1, type := 2, pos := "exact.go:5371", after := #[{ on := 5, ground := Ground.data }, { on := 9, ground := Ground.gcOnly Departure.lateStores }], guard := none }) (v := ?_) rfl (by kernel_rfl) (by kernel_rfl) (by kernel_rfl) (fun _ _ _ h => h) (Or.inl ⟨by rfl, ?_⟩) (by assumption) ?_
      rotate_left
      · intro w hSw; (try dsimp only at hSw); go_simp
        try with_reducible rfl
      simp only [Act.put, List.setIfInBounds_toArray, List.set_cons_zero, List.set_cons_succ]
      refine wpAnyH_ready (rs := [9]) (by kernel_rfl) (by simp) ?_
      refine AllReadyH.cons rfl (fun K' hK' => ?_) AllReadyH.nil
      obtain ⟨d0, d1, f0, f1⟩ := cells2 _ P0 _ _ _ Z.out
      go_simp
      have S := Arg.set S (show A < P0 by omega) (.int .i64 zn) (.slice a4 l4 q4)
      have S' := Arg.set S' AP (.int .i64 zn) (.slice a4 l4 q4)
      have GC : Hid (Gb ((wv.setCell ⟨P0, 0, none⟩ (.int .i64 zn)).setCell ⟨P0, 1, none⟩ (.slice a4 l4 q4)) P0 zn (.slice a4 l4 q4) 27) := set2_row _ _ _ _ _ _ _ Z.out
      have RC := Lib.hid (RowsL.off2 R4.out zb (.int .i64 zn) (.slice a4 l4 q4)).at
      refine hK'.out _ _ ⟨S.out.2.2.1.cells, S'.out.2.2.1.cells⟩ (fun hHeld => ?_)
      clear hK' K'
      refine wpAnyH_take (i := 10) (oi := { dst := some 7, op := Op.assign (Operand.tmp 34), type := 2, pos := "exact.go:5371", after := #[{ on := 7, ground := Ground.data }, { on := 9, ground := Ground.chain }, { on := 0, ground := Ground.phase }, { on := 1, ground := Ground.phase }, { on := 2, ground := Ground.phase }, { on := 3, ground := Ground.phase }, { on := 4, ground := Ground.phase }, { on := 5, ground := Ground.phase }, { on := 6, ground := Ground.phase }, { on := 7, ground := Ground.phase }, { on := 8, ground := Ground.phase }, { on := 9, ground := Ground.phase }], guard := none }) (v := ?_) rfl (by kernel_rfl) (by kernel_rfl) (by kernel_rfl) (fun _ _ _ h => h) (Or.inl ⟨by rfl, ?_⟩) (by assumption) ?_
      rotate_left
      · intro w hSw; (try dsimp only at hSw); go_simp
        try with_reducible rfl
      simp only [Act.put, List.setIfInBounds_toArray, List.set_cons_zero, List.set_cons_succ]
      refine wpAnyH_done (by kernel_rfl) ?_ _
      clear hHeld
      obtain ⟨w9, hw9⟩ : ∃ W, (wv.setCell ⟨P0, 0, none⟩ (.int .i64 zn)).setCell ⟨P0, 1, none⟩ (.slice a4 l4 q4) = W := ⟨_, rfl⟩
      rw [hw9] at GC RC S S'
      rw [hw9]
      clear d0 d1 f0 f1 hw9 R4 Z AP hP0 hb0 zb
  rotate_left 3
  focus
    go_simp
    obtain ⟨P0, hP0⟩ : ∃ P, (w4.drew).heap.size = P := ⟨_, rfl⟩
    have bz : Below (w4.drew).heap.size (w4.drew) ((w4.drew).alloc (.cells #[.int .i64 0, .slice none 0 0] 27)) := (Below.refl _ _).alloc (Nat.le_refl _) _
    have AP : A' < P0 := by rw [← hP0]; exact S'.out.2.2.1.lt
    have S := Arg.next S bz
    have S' := Arg.next S' bz
    have Z : Hid (Gb ((w4.drew).alloc (.cells #[.int .i64 0, .slice none 0 0] 27)) P0 0 (.slice none 0 0) 27) := by rw [← hP0]; exact heap_alloc_new _ _
    -- have I29 := Lib.hid (I29.out.below bz (Nat.le_refl _))
    -- have I31 := Lib.hid (I31.out.below bz (Nat.le_refl _))
    obtain ⟨wy, hwy⟩ : ∃ w', (w4.drew).alloc (.cells #[.int .i64 0, .slice none 0 0] 27) = w' := ⟨_, rfl⟩
    rw [show (w4.alloc (.cells #[.int .i64 0, .slice none 0 0] 27)).drew = w4.drew.alloc (.cells #[.int .i64 0, .slice none 0 0] 27) from rfl]
    have hP0' : w4.heap.size = P0 := hP0
    rw [hwy] at Z S S'
    try rw [hP0]
    try rw [hP0']
    rw [hwy]
    clear hP0'
    refine hK'.out _ _ ⟨S.out.2.2.1.cells, S'.out.2.2.1.cells⟩ (fun hHeld => ?_)
    clear hK' K'
    clear bz hwy
    refine wpAnyH_ready (rs := [1]) (by kernel_rfl) (by simp) ?_
    refine AllReadyH.cons rfl (fun K' hK' => ?_) AllReadyH.nil
    go_simp
    go_wp2_with fail
    refine (HTo.out _ (Arg.rows S)).mono ?_
    rintro e wv ⟨v29, rfl, i1, bA⟩
    have S := Arg.next S bA
    have S' := Arg.next S' bA
    have Z := Lib.hid (Gb.next Z.out bA)
    have N29 := Lib.hid i1.shapeN
    have I29 := Lib.hid i1.at
    refine hK'.out _ _ ⟨S.out.2.2.1.cells, S'.out.2.2.1.cells⟩ (fun hHeld => ?_)
    clear hK' K'
    clear i1 bA
    refine wpAnyH_ready (rs := [3]) (by kernel_rfl) (by simp) ?_
    refine AllReadyH.cons rfl (fun K' hK' => ?_) AllReadyH.nil
    go_simp
    go_wp2_with fail
    refine (HTo'.out _ (Arg.rows S')).mono ?_
    rintro e wv ⟨v31, rfl, i1, bA⟩
    have S := Arg.next S bA
    have S' := Arg.next S' bA
    have Z := Lib.hid (Gb.next Z.out bA)
    have N31 := Lib.hid i1.shapeN
    have I31 := Lib.hid i1.at
    have I29 := Lib.hid (I29.out.below bA (Nat.le_refl _))
    refine hK'.out _ _ ⟨S.out.2.2.1.cells, S'.out.2.2.1.cells⟩ (fun hHeld => ?_)
    clear hK' K'
    clear i1 bA
    refine wpAnyH_ready (rs := [4]) (by kernel_rfl) (by simp) ?_
    refine AllReadyH.cons rfl (fun K' hK' => ?_) AllReadyH.nil
    obtain ⟨b0, hb0⟩ : ∃ b, (wv).heap.size = b := ⟨_, rfl⟩
    have zb : P0 < b0 := by rw [← hb0]; exact Z.out.lt
    go_simp
    go_wp2_with fail
    refine (HS.out _ _ _ I29.out I31.out N29.out N31.out).mono ?_
    rintro e wv ⟨u4, rfl, i4, bA⟩
    obtain ⟨a4, l4, q4, rfl⟩ : ∃ a l c, u4 = .slice a l c := by obtain ⟨a, c, e, -⟩ := i4.at.shape; exact ⟨a, _, c, e⟩
    have S := Arg.next S bA
    have S' := Arg.next S' bA
    have Z := Lib.hid (Gb.next Z.out bA)
    rw [hb0] at i4
    have R4 := Lib.hid i4
    refine hK'.out _ _ ⟨S.out.2.2.1.cells, S'.out.2.2.1.cells⟩ (fun hHeld => ?_)
    clear hK' K'
    clear i4 bA I29 I31 N29 N31
    refine wpAnyH_take (i := 5) (oi := { dst := some 27, op := Op.move (Operand.tmp 32), type := 41, pos := "exact.go:5371", after := #[{ on := 4, ground := Ground.data }], guard := none }) (v := ?_) rfl (by kernel_rfl) (by kernel_rfl) (by kernel_rfl) (fun _ _ _ h => h) (Or.inl ⟨by rfl, ?_⟩) (by assumption) ?_
    rotate_left
    · intro w hSw; (try dsimp only at hSw); go_simp
      try with_reducible rfl
    simp only [Act.put, List.setIfInBounds_toArray, List.set_cons_zero, List.set_cons_succ]
    refine wpAnyH_take (i := 6) (oi := { dst := some 33, op := Op.extract (Operand.tmp 27) 0, type := 27, pos := "exact.go:5371", after := #[{ on := 5, ground := Ground.data }], guard := none }) (v := ?_) rfl (by kernel_rfl) (by kernel_rfl) (by kernel_rfl) (fun _ _ _ h => h) (Or.inl ⟨by rfl, ?_⟩) (by assumption) ?_
    rotate_left
    · intro w hSw; (try dsimp only at hSw); go_simp
      try with_reducible rfl
    simp only [Act.put, List.setIfInBounds_toArray, List.set_cons_zero, List.set_cons_succ]
    refine wpAnyH_take (i := 7) (oi := { dst := some 34, op := Op.extract (Operand.tmp 27) 1, type := 2, pos := "exact.go:5371", after := #[{ on := 5, ground := Ground.data }, { on := 9, ground := Ground.gcOnly Departure.lateStores }], guard := none }) (v := ?_) rfl (by kernel_rfl) (by kernel_rfl) (by kernel_rfl) (fun _ _ _ h => h) (Or.inl ⟨by rfl, ?_⟩) (by assumption) ?_
    rotate_left
    · intro w hSw; (try dsimp only at hSw); go_simp
      try with_reducible rfl
    simp only [Act.put, List.setIfInBounds_toArray, List.set_cons_zero, List.set_cons_succ]
    refine wpAnyH_ready (rs := [9]) (by kernel_rfl) (by simp) ?_
    refine AllReadyH.cons rfl (fun K' hK' => ?_) AllReadyH.nil
    obtain ⟨d0, d1, f0, f1⟩ := cells2 _ P0 _ _ _ Z.out
    go_simp
    have S := Arg.set S (show A < P0 by omega) (.int .i64 zn) (.slice a4 l4 q4)
    have S' := Arg.set S' AP (.int .i64 zn) (.slice a4 l4 q4)
    have GC : Hid (Gb ((wv.setCell ⟨P0, 0, none⟩ (.int .i64 zn)).setCell ⟨P0, 1, none⟩ (.slice a4 l4 q4)) P0 zn (.slice a4 l4 q4) 27) := set2_row _ _ _ _ _ _ _ Z.out
    have RC := Lib.hid (RowsL.off2 R4.out zb (.int .i64 zn) (.slice a4 l4 q4)).at
    refine hK'.out _ _ ⟨S.out.2.2.1.cells, S'.out.2.2.1.cells⟩ (fun hHeld => ?_)
    clear hK' K'
    refine wpAnyH_take (i := 10) (oi := { dst := some 7, op := Op.assign (Operand.tmp 34), type := 2, pos := "exact.go:5371", after := #[{ on := 7, ground := Ground.data }, { on := 9, ground := Ground.chain }, { on := 0, ground := Ground.phase }, { on := 1, ground := Ground.phase }, { on := 2, ground := Ground.phase }, { on := 3, ground := Ground.phase }, { on := 4, ground := Ground.phase }, { on := 5, ground := Ground.phase }, { on := 6, ground := Ground.phase }, { on := 7, ground := Ground.phase }, { on := 8, ground := Ground.phase }, { on := 9, ground := Ground.phase }], guard := none }) (v := ?_) rfl (by kernel_rfl) (by kernel_rfl) (by kernel_rfl) (fun _ _ _ h => h) (Or.inl ⟨by rfl, ?_⟩) (by assumption) ?_
    rotate_left
    · intro w hSw; (try dsimp only at hSw); go_simp
      try with_reducible rfl
    simp only [Act.put, List.setIfInBounds_toArray, List.set_cons_zero, List.set_cons_succ]
    refine wpAnyH_done (by kernel_rfl) ?_ _
    clear hHeld
    obtain ⟨w9, hw9⟩ : ∃ W, (wv.setCell ⟨P0, 0, none⟩ (.int .i64 zn)).setCell ⟨P0, 1, none⟩ (.slice a4 l4 q4) = W := ⟨_, rfl⟩
    rw [hw9] at GC RC S S'
    rw [hw9]
    clear d0 d1 f0 f1 hw9 R4 Z AP hP0 hb0 zb
  all_goals
    clear HS
    obtain ⟨wC, rfl⟩ : ∃ W : World, W = w9 := ⟨_, rfl⟩
    have CD : Hid (∀ W, Below wC.heap.size wC W → (W.cell? ⟨P0, 0, none⟩ = some (.int .i64 zn) ∧ W.cell? ⟨P0, 1, none⟩ = some (.slice a4 l4 q4)) ∧ RowsAt W (.slice a4 l4 q4) zl) := fun W h => ⟨(GC.out.next h).cells, RC.out.below h (Nat.le_refl _)⟩
    have CK : Hid (Below wC.heap.size wC wC) := Below.refl _ _
    have S9 := S
    have S9' := S'
    have ApC : A' < wC.heap.size := S'.out.2.2.1.lt
    clear GC RC S S'
    obtain ⟨c0, c1⟩ := S9.out.2.2.1.cells
    go_wp2_with fail
    refine (HTo.out _ (Arg.rows S9)).mono ?_
    rintro e w10 ⟨v6, rfl, i6, b6⟩
    obtain ⟨a6, q6, e6, -⟩ := i6.at.shape
    rw [HL.out] at e6
    subst e6
    have X7 := Cpy.new n 27 i6 b6.size
    have b7 : Below w10.heap.size w10 (w10.alloc (.cells #[.int .i64 n, .slice a6 len q6] 27)) := (Below.refl _ _).alloc (Nat.le_refl _) _
    have S11 := Arg.next (Arg.next S9 b6) b7
    have S11' := Arg.next (Arg.next S9' b6) b7
    have CK := bel_next (bel_next CK b6) b7
    obtain ⟨bx, hbx⟩ : ∃ P, wC.heap.size = P := ⟨_, rfl⟩
    obtain ⟨X, hX⟩ : ∃ P, w10.heap.size = P := ⟨_, rfl⟩
    have bX : bx ≤ X := by have := b6.size; omega
    obtain ⟨w11, hw11⟩ : ∃ W, w10.alloc (.cells #[.int .i64 n, .slice a6 len q6] 27) = W := ⟨_, rfl⟩
    rw [hw11, hX, hbx] at X7
    have gC : wC.heap.size ≤ bx := Nat.le_of_eq hbx
    rw [hw11] at S11 S11' CK
    clear i6 b6 b7 S9 S9' c0 c1
    obtain ⟨c0, c1⟩ := S11'.out.2.2.1.cells
    go_wp2_with fail
    try rw [hw11]
    clear hw11
    refine (HTo'.out _ (Arg.rows S11')).mono ?_
    rintro e w12 ⟨v7, rfl, i7, b7⟩
    obtain ⟨a7, q7, e7, -⟩ := i7.at.shape
    rw [HL'.out] at e7
    subst e7
    have gX := X7.out.1.lt
    have Y8 := Cpy.new n2 27 i7 b7.size
    have b8 : Below w12.heap.size w12 (w12.alloc (.cells #[.int .i64 n2, .slice a7 len' q7] 27)) := (Below.refl _ _).alloc (Nat.le_refl _) _
    have S13 := Arg.next (Arg.next S11 b7) b8
    have S13' := Arg.next (Arg.next S11' b7) b8
    have CK := bel_next (bel_next CK b7) b8
    have X13 := Cpy.next (Cpy.next X7 b7) b8
    obtain ⟨byy, hby⟩ : ∃ P, w11.heap.size = P := ⟨_, rfl⟩
    obtain ⟨Y, hY⟩ : ∃ P, w12.heap.size = P := ⟨_, rfl⟩
    have bY : byy ≤ Y := by have := b7.size; omega
    obtain ⟨w13, hw13⟩ : ∃ W, w12.alloc (.cells #[.int .i64 n2, .slice a7 len' q7] 27) = W := ⟨_, rfl⟩
    rw [hw13, hY, hby] at Y8
    rw [hby] at gX
    rw [hw13] at S13 S13' CK X13
    clear i7 b7 b8 S11 S11' c0 c1 X7 hbx hX
    obtain ⟨x0, x1⟩ := Cpy.cells X13
    obtain ⟨y0, y1⟩ := Cpy.cells Y8
    -- the program's
    go_wp2_with fail
    try rw [hw13]
    clear hw13
    refine (HI.out _ _ _ (Cpy.at X13) (Cpy.at Y8) (TB.out _ S13.out.2.2.2)).mono ?_
    rintro e w14 ⟨u8, rfl, i8, b8⟩
    obtain ⟨a8, l8, q8, rfl⟩ : ∃ a l c, u8 = .slice a l c := by obtain ⟨a, c, e, -⟩ := i8.at.shape; exact ⟨a, _, c, e⟩
    have gY := Y8.out.1.lt
    have G15 := Cpy.new zn 27 i8 b8.size
    have b9 : Below w14.heap.size w14 (w14.alloc (.cells #[.int .i64 zn, .slice a8 l8 q8] 27)) := (Below.refl _ _).alloc (Nat.le_refl _) _
    have S15 := Arg.next (Arg.next S13 b8) b9
    have S15' := Arg.next (Arg.next S13' b8) b9
    have CK := bel_next (bel_next CK b8) b9
    have X15 := Cpy.next (Cpy.next X13 b8) b9
    have Y15 := Cpy.next (Cpy.next Y8 b8) b9
    obtain ⟨bg, hbg⟩ : ∃ P, w13.heap.size = P := ⟨_, rfl⟩
    obtain ⟨P1, hP1⟩ : ∃ P, w14.heap.size = P := ⟨_, rfl⟩
    have bG : bg ≤ P1 := by have := b8.size; omega
    obtain ⟨w15, hw15⟩ : ∃ W, w14.alloc (.cells #[.int .i64 zn, .slice a8 l8 q8] 27) = W := ⟨_, rfl⟩
    rw [hw15, hP1, hbg] at G15
    rw [hbg] at gY
    rw [hw15] at S15 S15' CK X15 Y15
    clear i8 b8 b9 S13 S13' X13 Y8 x0 x1 y0 y1 hby hY
    obtain ⟨c0, c1⟩ := (CD.out _ CK.out).1
    obtain ⟨d0, d1⟩ := Cpy.cells G15
    go_wp2_with fail
    try rw [hw15]
    clear hw15 hbg hP1
    refine (eq_Design _ zn _ _ zl (Cpy.at G15) ((CD.out _ CK.out).2)).mono ?_
    rintro e wa ⟨rfl, ba⟩
    obtain ⟨P, hP⟩ : ∃ P : World → Prop, P = fun W => Below wC.heap.size wC W ∧ Cpy P1 bg zn (.slice a8 l8 q8) 27 zl W ∧ Cpy Y byy n2 (.slice a7 len' q7) 27 ys W ∧ Arg w1 A' n2 (.slice a' len' cap') 24 ys W := ⟨_, rfl⟩
    have KP : Keeps P := fun W W' hb h => by
      rw [hP] at h ⊢
      exact ⟨(bel_next (Lib.hid h.1) hb).out, (Cpy.next (Lib.hid h.2.1) hb).out, (Cpy.next (Lib.hid h.2.2.1) hb).out, (Arg.next (Lib.hid h.2.2.2) hb).out⟩
    have PO : Hid (∀ W, P W → Below wC.heap.size wC W ∧ Cpy P1 bg zn (.slice a8 l8 q8) 27 zl W ∧ Cpy Y byy n2 (.slice a7 len' q7) 27 ys W ∧ Arg w1 A' n2 (.slice a' len' cap') 24 ys W) := fun W h => by rw [hP] at h; exact h
    have Da : Hid (StD P w A X bx n (.slice a len cap) (.slice a6 len q6) xs wa) := ⟨(Arg.next S15 ba).out, (Cpy.next X15 ba).out, by rw [hP]; exact ⟨(bel_next CK ba).out, (Cpy.next G15 ba).out, (Cpy.next Y15 ba).out, (Arg.next S15' ba).out⟩⟩
    have Dad := StD.next KP Da (Below.refl _ _).drew
    clear hP ba c0 c1 d0 d1 S15 S15' X15 Y15 G15
    go_upto_region 14 with fail
    go_region_held3 (fun w' => (w'.cell? ⟨A, 0, none⟩ = some (.int .i64 n) ∧ w'.cell? ⟨A, 1, none⟩ = some (.slice a len cap)) ∧ (w'.cell? ⟨X, 0, none⟩ = some (.int .i64 n) ∧ w'.cell? ⟨X, 1, none⟩ = some (.slice a6 len q6)) ∧ Hid (StD P w A X bx n (.slice a len cap) (.slice a6 len q6) xs w')) (first | exact held_std (by assumption))
      (first | (go_at_call 10; refine (HTo.out _ (Arg.rows (Lib.hid (Hid.out (by assumption : Hid (StD P w A X bx n (.slice a len cap) (.slice a6 len q6) xs _))).1))).mono ?_; rintro e wc ⟨v9, rfl, i9, b9⟩; have Dc := StD.next KP (by assumption) b9; have I9 := Lib.hid i9.at) | (go_at_call 12; refine (HE.out _ _ _ Dc.out.2.1.2.1.at I9.out).mono ?_; rintro e wd ⟨rfl, bd⟩; have Dd := StD.next KP Dc bd))
    clear Da Dad Dc I9
    obtain ⟨P', hP'⟩ : ∃ P : World → Prop, P = fun W => Below wC.heap.size wC W ∧ Cpy P1 bg zn (.slice a8 l8 q8) 27 zl W ∧ Cpy X bx n (.slice a6 len q6) 27 xs W ∧ Arg w A n (.slice a len cap) 24 xs W := ⟨_, rfl⟩
    have KP' : Keeps P' := fun W W' hb h => by
      rw [hP'] at h ⊢
      exact ⟨(bel_next (Lib.hid h.1) hb).out, (Cpy.next (Lib.hid h.2.1) hb).out, (Cpy.next (Lib.hid h.2.2.1) hb).out, (Arg.next (Lib.hid h.2.2.2) hb).out⟩
    have PO' : Hid (∀ W, P' W → Below wC.heap.size wC W ∧ Cpy P1 bg zn (.slice a8 l8 q8) 27 zl W ∧ Cpy X bx n (.slice a6 len q6) 27 xs W ∧ Arg w A n (.slice a len cap) 24 xs W) := fun W h => by rw [hP'] at h; exact h
    obtain ⟨p1, p2, p3, p4⟩ := PO.out _ Dd.out.2.2
    have Ea : Hid (StD P' w1 A' Y byy n2 (.slice a' len' cap') (.slice a7 len' q7) ys wd) := ⟨p4, p3, by rw [hP']; exact ⟨p1, p2, Dd.out.2.1, Dd.out.1⟩⟩
    have Ead := StD.next KP' Ea (Below.refl _ _).drew
    clear p1 p2 p3 p4 Dd PO KP hP'
    go_upto_region 16 with fail
    go_region_held3 (fun w' => (w'.cell? ⟨A', 0, none⟩ = some (.int .i64 n2) ∧ w'.cell? ⟨A', 1, none⟩ = some (.slice a' len' cap')) ∧ (w'.cell? ⟨Y, 0, none⟩ = some (.int .i64 n2) ∧ w'.cell? ⟨Y, 1, none⟩ = some (.slice a7 len' q7)) ∧ Hid (StD P' w1 A' Y byy n2 (.slice a' len' cap') (.slice a7 len' q7) ys w')) (first | exact held_std (by assumption))
      (first | (go_at_call 10; refine (HTo'.out _ (Arg.rows (Lib.hid (Hid.out (by assumption : Hid (StD P' w1 A' Y byy n2 (.slice a' len' cap') (.slice a7 len' q7) ys _))).1))).mono ?_; rintro e wc ⟨v9, rfl, i9, b9⟩; have Ec := StD.next KP' (by assumption) b9; have I9 := Lib.hid i9.at) | (go_at_call 12; refine (HE'.out _ _ _ Ec.out.2.1.2.1.at I9.out).mono ?_; rintro e we ⟨rfl, be⟩; have Ed := StD.next KP' Ec be))
    clear Ea Ead Ec I9
    obtain ⟨p1, p2, p3, p4⟩ := PO'.out _ Ed.out.2.2
    have S20 := Lib.hid p4
    have S20' := Lib.hid Ed.out.1
    have CK := Lib.hid p1
    have G20 := Lib.hid p2
    have X20 := Lib.hid p3
    have Y20 := Lib.hid Ed.out.2.1
    clear p1 p2 p3 p4 Ed PO' KP'
    obtain ⟨x0, x1⟩ := Cpy.cells X20
    -- the marks
    go_wp2_with fail
    refine (mark_Design _ bx X n _ xs 1 X20.out.2.1 (by omega) (by omega)).mono ?_
    rintro e wf ⟨rfl, mf⟩
    have bf : Below we.heap.size we (we.alloc (.cells #[.int .i64 n, .slice a6 len q6] 27)) := (Below.refl _ _).alloc (Nat.le_refl _) _
    have S21 := Arg.mark (Arg.next S20 bf) mf (by omega)
    have S21' := Arg.mark (Arg.next S20' bf) mf (by omega)
    have CK := bel_mark (bel_next CK bf) mf (by omega)
    have G21 := Cpy.keep (Cpy.next G20 bf) mf (.inr (by omega))
    have Y21 := Cpy.keep (Cpy.next Y20 bf) mf (.inr (by omega))
    obtain ⟨kq0, hkq0⟩ : ∃ q : Int, 1 + (tot xs : Int) = q := ⟨_, rfl⟩
    rw [hkq0]
    clear bf mf x0 x1 S20 S20' G20 X20 Y20
    obtain ⟨y0, y1⟩ := Cpy.cells Y21
    go_wp2_with fail
    refine (mark_Design _ byy Y n2 _ ys kq0 Y21.out.2.1 (by omega) (by omega)).mono ?_
    rintro e wg ⟨rfl, mg⟩
    have bgg : Below wf.heap.size wf (wf.alloc (.cells #[.int .i64 n2, .slice a7 len' q7] 27)) := (Below.refl _ _).alloc (Nat.le_refl _) _
    have S22 := Arg.mark (Arg.next S21 bgg) mg (by omega)
    have S22' := Arg.mark (Arg.next S21' bgg) mg (by omega)
    have CK := bel_mark (bel_next CK bgg) mg (by omega)
    have G22 := Cpy.keep (Cpy.next G21 bgg) mg (.inr (by omega))
    obtain ⟨kq, hkq⟩ : ∃ q : Int, kq0 + (tot ys : Int) = q := ⟨_, rfl⟩
    rw [hkq]
    have fq : decide (kq < 0) = false := decide_eq_false (by omega)
    clear bgg mg hkq hkq0 y0 y1 S21 S21' G21 Y21
    obtain ⟨c0, c1⟩ := (CD.out _ CK.out).1
    obtain ⟨d0, d1⟩ := Cpy.cells G22
    go_wp2_with fail
    refine (eq_Design _ zn _ _ zl (Cpy.at G22) ((CD.out _ CK.out).2)).mono ?_
    rintro e wh ⟨rfl, bh⟩
    have S23 := Arg.next S22 bh
    have S23' := Arg.next S22' bh
    have CK := bel_next CK bh
    have G23 := Cpy.next G22 bh
    clear bh c0 c1 d0 d1 S22 S22' G22
    obtain ⟨d0, d1⟩ := Cpy.cells G23
    go_wp2_with fail
    refine (mark_DesignR _ bg P1 zn _ zl 1 G23.out.2.1 (by omega) (by omega)).mono ?_
    rintro e wi ⟨rfl, ri, mi⟩
    have bi : Below wh.heap.size wh (wh.alloc (.cells #[.int .i64 zn, .slice a8 l8 q8] 27)) := (Below.refl _ _).alloc (Nat.le_refl _) _
    have S24 := Arg.mark (Arg.next S23 bi) mi (by omega)
    have S24' := Arg.mark (Arg.next S23' bi) mi (by omega)
    have CK := bel_mark (bel_next CK bi) mi (by omega)
    have G24 := Cpy.marked (Cpy.next G23 bi) mi ri
    obtain ⟨q2, hq2⟩ : ∃ q : Int, 1 + (tot zl : Int) = q := ⟨_, rfl⟩
    rw [hq2]
    have f2 : decide (q2 < 0) = false := decide_eq_false (by omega)
    have e2 : (q2 != q2) = false := by simp
    have HQ2 := Lib.hid hq2
    clear bi mi ri hq2 d0 d1 S23 S23' G23
    obtain ⟨d0, d1⟩ := Cpy.cells G24
    go_wp2_with fail
    refine (held_Design _ zn _ zl 1 (Cpy.at G24) (by omega) (by omega)).mono ?_
    rintro e wj ⟨rfl, bj⟩
    rw [HQ2.out]
    have S25 := Arg.next S24 bj
    have S25' := Arg.next S24' bj
    have CK := bel_next CK bj
    have G25 := Cpy.next G24 bj
    clear bj d0 d1 S24 S24' G24
    have S := Arg.next S25 (Below.refl _ _).drew
    have S' := Arg.next S25' (Below.refl _ _).drew
    have CK := bel_next CK (Below.refl _ _).drew
    have GK := Cpy.next G25 (Below.refl _ _).drew
    clear S25 S25' G25
    go_wp2
    refine wp_region_held_drew (S := fun w' => (w'.cell? ⟨A, 0, none⟩ = some (.int .i64 n) ∧ w'.cell? ⟨A, 1, none⟩ = some (.slice a len cap)) ∧ (w'.cell? ⟨A', 0, none⟩ = some (.int .i64 n2) ∧ w'.cell? ⟨A', 1, none⟩ = some (.slice a' len' cap'))) (by kernel_rfl) ⟨S.out.2.2.1.cells, S'.out.2.2.1.cells⟩ (fun hHeld => ?_)
    refine wpAnyH_take (i := 0) (oi := { dst := some 95, op := Op.load 24 (Operand.tmp 2), type := 24, pos := "exact.go:5400", after := #[], guard := none }) (v := ?_) rfl (by kernel_rfl) (by kernel_rfl) (by kernel_rfl) (fun _ _ _ h => h) (Or.inl ⟨by rfl, ?_⟩) (by assumption) ?_
    rotate_left
    · intro w hSw; (try dsimp only at hSw); go_simp
      try with_reducible rfl
    simp only [Act.put, List.setIfInBounds_toArray, List.set_cons_zero, List.set_cons_succ]
    refine wpAnyH_take (i := 2) (oi := { dst := some 97, op := Op.load 24 (Operand.tmp 3), type := 24, pos := "exact.go:5400", after := #[], guard := none }) (v := ?_) rfl (by kernel_rfl) (by kernel_rfl) (by kernel_rfl) (fun _ _ _ h => h) (Or.inl ⟨by rfl, ?_⟩) (by assumption) ?_
    rotate_left
    · intro w hSw; (try dsimp only at hSw); go_simp
      try with_reducible rfl
    simp only [Act.put, List.setIfInBounds_toArray, List.set_cons_zero, List.set_cons_succ]
    refine wpAnyH_ready (rs := [1, 8]) (by kernel_rfl) (by simp) ?_
    refine AllReadyH.cons rfl (fun K' hK' => ?_) (AllReadyH.cons rfl (fun K' hK' => ?_) AllReadyH.nil)
    focus
      go_simp
      go_wp2_with fail
      refine (HTo.out _ (Arg.rows S)).mono ?_
      rintro e wv ⟨v29, rfl, i1, bA⟩
      have S := Arg.next S bA
      have S' := Arg.next S' bA
      have CK := bel_next CK bA
      have GK := Cpy.next GK bA
      have N29 := Lib.hid i1.shapeN
      have I29 := Lib.hid i1.at
      refine hK'.out _ _ ⟨S.out.2.2.1.cells, S'.out.2.2.1.cells⟩ (fun hHeld => ?_)
      clear hK' K'
      clear i1 bA
      refine wpAnyH_ready (rs := [3, 8]) (by kernel_rfl) (by simp) ?_
      refine AllReadyH.cons rfl (fun K' hK' => ?_) (AllReadyH.cons rfl (fun K' hK' => ?_) AllReadyH.nil)
      focus
        go_simp
        go_wp2_with fail
        refine (HTo'.out _ (Arg.rows S')).mono ?_
        rintro e wv ⟨v31, rfl, i1, bA⟩
        have S := Arg.next S bA
        have S' := Arg.next S' bA
        have CK := bel_next CK bA
        have GK := Cpy.next GK bA
        have N31 := Lib.hid i1.shapeN
        have I31 := Lib.hid i1.at
        have I29 := Lib.hid (I29.out.below bA (Nat.le_refl _))
        refine hK'.out _ _ ⟨S.out.2.2.1.cells, S'.out.2.2.1.cells⟩ (fun hHeld => ?_)
        clear hK' K'
        clear i1 bA
        refine wpAnyH_ready (rs := [4, 8]) (by kernel_rfl) (by simp) ?_
        refine AllReadyH.cons rfl (fun K' hK' => ?_) (AllReadyH.cons rfl (fun K' hK' => ?_) AllReadyH.nil)
        focus
          obtain ⟨b0, hb0⟩ : ∃ b, (wv).heap.size = b := ⟨_, rfl⟩
          go_simp
          go_wp2_with fail
          refine (HI.out _ _ _ I29.out I31.out (TB.out _ S.out.2.2.2)).mono ?_
          rintro e wv ⟨u4, rfl, i4, bA⟩
          obtain ⟨a5, l5, q5, rfl⟩ : ∃ a l c, u4 = .slice a l c := by obtain ⟨a, c, e, -⟩ := i4.at.shape; exact ⟨a, _, c, e⟩
          have S := Arg.next S bA
          have S' := Arg.next S' bA
          have CK := bel_next CK bA
          have GK := Cpy.next GK bA
          rw [hb0] at i4
          have R4 := Lib.hid i4
          refine hK'.out _ _ ⟨S.out.2.2.1.cells, S'.out.2.2.1.cells⟩ (fun hHeld => ?_)
          clear hK' K'
          clear i4 bA I29 I31 N29 N31
          refine wpAnyH_take (i := 5) (oi := { dst := some 94, op := Op.move (Operand.tmp 99), type := 41, pos := "exact.go:5400", after := #[{ on := 4, ground := Ground.data }], guard := none }) (v := ?_) rfl (by kernel_rfl) (by kernel_rfl) (by kernel_rfl) (fun _ _ _ h => h) (Or.inl ⟨by rfl, ?_⟩) (by assumption) ?_
          rotate_left
          · intro w hSw; (try dsimp only at hSw); go_simp
            try with_reducible rfl
          simp only [Act.put, List.setIfInBounds_toArray, List.set_cons_zero, List.set_cons_succ]
          refine wpAnyH_take (i := 6) (oi := { dst := some 100, op := Op.extract (Operand.tmp 94) 0, type := 27, pos := "exact.go:5400", after := #[{ on := 5, ground := Ground.data }], guard := none }) (v := ?_) rfl (by kernel_rfl) (by kernel_rfl) (by kernel_rfl) (fun _ _ _ h => h) (Or.inl ⟨by rfl, ?_⟩) (by assumption) ?_
          rotate_left
          · intro w hSw; (try dsimp only at hSw); go_simp
            try with_reducible rfl
          simp only [Act.put, List.setIfInBounds_toArray, List.set_cons_zero, List.set_cons_succ]
          refine wpAnyH_take (i := 7) (oi := { dst := some 101, op := Op.extract (Operand.tmp 94) 1, type := 2, pos := "exact.go:5400", after := #[{ on := 5, ground := Ground.data }, { on := 9, ground := Ground.gcOnly Departure.lateStores }], guard := none }) (v := ?_) rfl (by kernel_rfl) (by kernel_rfl) (by kernel_rfl) (fun _ _ _ h => h) (Or.inl ⟨by rfl, ?_⟩) (by assumption) ?_
          rotate_left
          · intro w hSw; (try dsimp only at hSw); go_simp
            try with_reducible rfl
          simp only [Act.put, List.setIfInBounds_toArray, List.set_cons_zero, List.set_cons_succ]
          refine wpAnyH_ready (rs := [8]) (by kernel_rfl) (by simp) ?_
          refine AllReadyH.cons rfl (fun K' hK' => ?_) AllReadyH.nil
          go_simp
          obtain ⟨P2, hP2⟩ : ∃ P, (wv).heap.size = P := ⟨_, rfl⟩
          have bz : Below (wv).heap.size (wv) ((wv).alloc (.cells #[.int .i64 0, .slice none 0 0] 27)) := (Below.refl _ _).alloc (Nat.le_refl _) _
          have AP : A' < P2 := by rw [← hP2]; exact S'.out.2.2.1.lt
          have GP : P1 < P2 := by rw [← hP2]; exact GK.out.1.lt
          have CP : wC.heap.size ≤ P2 := by rw [← hP2]; exact CK.out.size
          have S := Arg.next S bz
          have S' := Arg.next S' bz
          have CK := bel_next CK bz
          have GK := Cpy.next GK bz
          have Z : Hid (Gb ((wv).alloc (.cells #[.int .i64 0, .slice none 0 0] 27)) P2 0 (.slice none 0 0) 27) := by rw [← hP2]; exact heap_alloc_new _ _
          have R4 := Lib.hid (R4.out.belowS bz (Nat.le_refl _))
          rw [hP2] at R4
          obtain ⟨wy, hwy⟩ : ∃ w', (wv).alloc (.cells #[.int .i64 0, .slice none 0 0] 27) = w' := ⟨_, rfl⟩
          rw [hwy] at Z S S' CK GK R4
          try rw [hP2]
          rw [hwy]
          refine hK'.out _ _ ⟨S.out.2.2.1.cells, S'.out.2.2.1.cells⟩ (fun hHeld => ?_)
          clear hK' K'
          clear bz hwy
          refine wpAnyH_ready (rs := [9]) (by kernel_rfl) (by simp) ?_
          refine AllReadyH.cons rfl (fun K' hK' => ?_) AllReadyH.nil
          obtain ⟨d0, d1, f0, f1⟩ := cells2 _ P2 _ _ _ Z.out
          go_simp
          have S := Arg.set S (show A < P2 by omega) (.int .i64 zn) (.slice a5 l5 q5)
          have S' := Arg.set S' AP (.int .i64 zn) (.slice a5 l5 q5)
          have CK := bel_set CK CP (.int .i64 zn) (.slice a5 l5 q5)
          have GK := Cpy.set GK GP (.int .i64 zn) (.slice a5 l5 q5)
          have GC : Hid (Gb ((wy.setCell ⟨P2, 0, none⟩ (.int .i64 zn)).setCell ⟨P2, 1, none⟩ (.slice a5 l5 q5)) P2 zn (.slice a5 l5 q5) 27) := set2_row _ _ _ _ _ _ _ Z.out
          have RC := Lib.hid (R4.out.belowS (((Below.refl P2 wy).setCell (p := ⟨P2, 0, none⟩) (Nat.le_refl _) (.int .i64 zn)).setCell (p := ⟨P2, 1, none⟩) (Nat.le_refl _) (.slice a5 l5 q5)) (Nat.le_refl _)).at
          refine hK'.out _ _ ⟨S.out.2.2.1.cells, S'.out.2.2.1.cells⟩ (fun hHeld => ?_)
          clear hK' K'
          refine wpAnyH_take (i := 10) (oi := { dst := some 16, op := Op.assign (Operand.tmp 101), type := 2, pos := "exact.go:5400", after := #[{ on := 7, ground := Ground.data }, { on := 9, ground := Ground.chain }, { on := 0, ground := Ground.phase }, { on := 1, ground := Ground.phase }, { on := 2, ground := Ground.phase }, { on := 3, ground := Ground.phase }, { on := 4, ground := Ground.phase }, { on := 5, ground := Ground.phase }, { on := 6, ground := Ground.phase }, { on := 7, ground := Ground.phase }, { on := 8, ground := Ground.phase }, { on := 9, ground := Ground.phase }], guard := none }) (v := ?_) rfl (by kernel_rfl) (by kernel_rfl) (by kernel_rfl) (fun _ _ _ h => h) (Or.inl ⟨by rfl, ?_⟩) (by assumption) ?_
          rotate_left
          · intro w hSw; (try dsimp only at hSw); go_simp
            try with_reducible rfl
          simp only [Act.put, List.setIfInBounds_toArray, List.set_cons_zero, List.set_cons_succ]
          refine wpAnyH_done (by kernel_rfl) ?_ _
          clear hHeld
          obtain ⟨w9, hw9⟩ : ∃ W, (wy.setCell ⟨P2, 0, none⟩ (.int .i64 zn)).setCell ⟨P2, 1, none⟩ (.slice a5 l5 q5) = W := ⟨_, rfl⟩
          rw [hw9] at GC RC S S' CK GK
          rw [hw9]
          clear d0 d1 f0 f1 hw9 R4 Z AP hP2 hb0 GP CP
        rotate_left 1
        focus
          go_simp
          obtain ⟨P2, hP2⟩ : ∃ P, (wv).heap.size = P := ⟨_, rfl⟩
          have bz : Below (wv).heap.size (wv) ((wv).alloc (.cells #[.int .i64 0, .slice none 0 0] 27)) := (Below.refl _ _).alloc (Nat.le_refl _) _
          have AP : A' < P2 := by rw [← hP2]; exact S'.out.2.2.1.lt
          have GP : P1 < P2 := by rw [← hP2]; exact GK.out.1.lt
          have CP : wC.heap.size ≤ P2 := by rw [← hP2]; exact CK.out.size
          have S := Arg.next S bz
          have S' := Arg.next S' bz
          have CK := bel_next CK bz
          have GK := Cpy.next GK bz
          have Z : Hid (Gb ((wv).alloc (.cells #[.int .i64 0, .slice none 0 0] 27)) P2 0 (.slice none 0 0) 27) := by rw [← hP2]; exact heap_alloc_new _ _
          have I29 := Lib.hid (I29.out.below bz (Nat.le_refl _))
          have I31 := Lib.hid (I31.out.below bz (Nat.le_refl _))
          obtain ⟨wy, hwy⟩ : ∃ w', (wv).alloc (.cells #[.int .i64 0, .slice none 0 0] 27) = w' := ⟨_, rfl⟩
          rw [hwy] at Z S S' CK GK I29 I31
          try rw [hP2]
          rw [hwy]
          refine hK'.out _ _ ⟨S.out.2.2.1.cells, S'.out.2.2.1.cells⟩ (fun hHeld => ?_)
          clear hK' K'
          clear bz hwy
          refine wpAnyH_ready (rs := [4]) (by kernel_rfl) (by simp) ?_
          refine AllReadyH.cons rfl (fun K' hK' => ?_) AllReadyH.nil
          obtain ⟨b0, hb0⟩ : ∃ b, (wy).heap.size = b := ⟨_, rfl⟩
          have zb : P2 < b0 := by rw [← hb0]; exact Z.out.lt
          go_simp
          go_wp2_with fail
          refine (HI.out _ _ _ I29.out I31.out (TB.out _ S.out.2.2.2)).mono ?_
          rintro e wv ⟨u4, rfl, i4, bA⟩
          obtain ⟨a5, l5, q5, rfl⟩ : ∃ a l c, u4 = .slice a l c := by obtain ⟨a, c, e, -⟩ := i4.at.shape; exact ⟨a, _, c, e⟩
          have S := Arg.next S bA
          have S' := Arg.next S' bA
          have Z := Lib.hid (Gb.next Z.out bA)
          have CK := bel_next CK bA
          have GK := Cpy.next GK bA
          rw [hb0] at i4
          have R4 := Lib.hid i4
          refine hK'.out _ _ ⟨S.out.2.2.1.cells, S'.out.2.2.1.cells⟩ (fun hHeld => ?_)
          clear hK' K'
          clear i4 bA I29 I31 N29 N31
          refine wpAnyH_take (i := 5) (oi := { dst := some 94, op := Op.move (Operand.tmp 99), type := 41, pos := "exact.go:5400", after := #[{ on := 4, ground := Ground.data }], guard := none }) (v := ?_) rfl (by kernel_rfl) (by kernel_rfl) (by kernel_rfl) (fun _ _ _ h => h) (Or.inl ⟨by rfl, ?_⟩) (by assumption) ?_
          rotate_left
          · intro w hSw; (try dsimp only at hSw); go_simp
            try with_reducible rfl
          simp only [Act.put, List.setIfInBounds_toArray, List.set_cons_zero, List.set_cons_succ]
          refine wpAnyH_take (i := 6) (oi := { dst := some 100, op := Op.extract (Operand.tmp 94) 0, type := 27, pos := "exact.go:5400", after := #[{ on := 5, ground := Ground.data }], guard := none }) (v := ?_) rfl (by kernel_rfl) (by kernel_rfl) (by kernel_rfl) (fun _ _ _ h => h) (Or.inl ⟨by rfl, ?_⟩) (by assumption) ?_
          rotate_left
          · intro w hSw; (try dsimp only at hSw); go_simp
            try with_reducible rfl
          simp only [Act.put, List.setIfInBounds_toArray, List.set_cons_zero, List.set_cons_succ]
          refine wpAnyH_take (i := 7) (oi := { dst := some 101, op := Op.extract (Operand.tmp 94) 1, type := 2, pos := "exact.go:5400", after := #[{ on := 5, ground := Ground.data }, { on := 9, ground := Ground.gcOnly Departure.lateStores }], guard := none }) (v := ?_) rfl (by kernel_rfl) (by kernel_rfl) (by kernel_rfl) (fun _ _ _ h => h) (Or.inl ⟨by rfl, ?_⟩) (by assumption) ?_
          rotate_left
          · intro w hSw; (try dsimp only at hSw); go_simp
            try with_reducible rfl
          simp only [Act.put, List.setIfInBounds_toArray, List.set_cons_zero, List.set_cons_succ]
          refine wpAnyH_ready (rs := [9]) (by kernel_rfl) (by simp) ?_
          refine AllReadyH.cons rfl (fun K' hK' => ?_) AllReadyH.nil
          obtain ⟨d0, d1, f0, f1⟩ := cells2 _ P2 _ _ _ Z.out
          go_simp
          have S := Arg.set S (show A < P2 by omega) (.int .i64 zn) (.slice a5 l5 q5)
          have S' := Arg.set S' AP (.int .i64 zn) (.slice a5 l5 q5)
          have CK := bel_set CK CP (.int .i64 zn) (.slice a5 l5 q5)
          have GK := Cpy.set GK GP (.int .i64 zn) (.slice a5 l5 q5)
          have GC : Hid (Gb ((wv.setCell ⟨P2, 0, none⟩ (.int .i64 zn)).setCell ⟨P2, 1, none⟩ (.slice a5 l5 q5)) P2 zn (.slice a5 l5 q5) 27) := set2_row _ _ _ _ _ _ _ Z.out
          have RC := Lib.hid (RowsL.off2 R4.out zb (.int .i64 zn) (.slice a5 l5 q5)).at
          refine hK'.out _ _ ⟨S.out.2.2.1.cells, S'.out.2.2.1.cells⟩ (fun hHeld => ?_)
          clear hK' K'
          refine wpAnyH_take (i := 10) (oi := { dst := some 16, op := Op.assign (Operand.tmp 101), type := 2, pos := "exact.go:5400", after := #[{ on := 7, ground := Ground.data }, { on := 9, ground := Ground.chain }, { on := 0, ground := Ground.phase }, { on := 1, ground := Ground.phase }, { on := 2, ground := Ground.phase }, { on := 3, ground := Ground.phase }, { on := 4, ground := Ground.phase }, { on := 5, ground := Ground.phase }, { on := 6, ground := Ground.phase }, { on := 7, ground := Ground.phase }, { on := 8, ground := Ground.phase }, { on := 9, ground := Ground.phase }], guard := none }) (v := ?_) rfl (by kernel_rfl) (by kernel_rfl) (by kernel_rfl) (fun _ _ _ h => h) (Or.inl ⟨by rfl, ?_⟩) (by assumption) ?_
          rotate_left
          · intro w hSw; (try dsimp only at hSw); go_simp
            try with_reducible rfl
          simp only [Act.put, List.setIfInBounds_toArray, List.set_cons_zero, List.set_cons_succ]
          refine wpAnyH_done (by kernel_rfl) ?_ _
          clear hHeld
          obtain ⟨w9, hw9⟩ : ∃ W, (wv.setCell ⟨P2, 0, none⟩ (.int .i64 zn)).setCell ⟨P2, 1, none⟩ (.slice a5 l5 q5) = W := ⟨_, rfl⟩
          rw [hw9] at GC RC S S' CK GK
          rw [hw9]
          clear d0 d1 f0 f1 hw9 R4 Z AP hP2 hb0 zb GP CP
      rotate_left 2
      focus
        go_simp
        obtain ⟨P2, hP2⟩ : ∃ P, (wv).heap.size = P := ⟨_, rfl⟩
        have bz : Below (wv).heap.size (wv) ((wv).alloc (.cells #[.int .i64 0, .slice none 0 0] 27)) := (Below.refl _ _).alloc (Nat.le_refl _) _
        have AP : A' < P2 := by rw [← hP2]; exact S'.out.2.2.1.lt
        have GP : P1 < P2 := by rw [← hP2]; exact GK.out.1.lt
        have CP : wC.heap.size ≤ P2 := by rw [← hP2]; exact CK.out.size
        have S := Arg.next S bz
        have S' := Arg.next S' bz
        have CK := bel_next CK bz
        have GK := Cpy.next GK bz
        have Z : Hid (Gb ((wv).alloc (.cells #[.int .i64 0, .slice none 0 0] 27)) P2 0 (.slice none 0 0) 27) := by rw [← hP2]; exact heap_alloc_new _ _
        have I29 := Lib.hid (I29.out.below bz (Nat.le_refl _))
        -- have I31 := Lib.hid (I31.out.below bz (Nat.le_refl _))
        obtain ⟨wy, hwy⟩ : ∃ w', (wv).alloc (.cells #[.int .i64 0, .slice none 0 0] 27) = w' := ⟨_, rfl⟩
        rw [hwy] at Z S S' CK GK I29
        try rw [hP2]
        rw [hwy]
        refine hK'.out _ _ ⟨S.out.2.2.1.cells, S'.out.2.2.1.cells⟩ (fun hHeld => ?_)
        clear hK' K'
        clear bz hwy
        refine wpAnyH_ready (rs := [3]) (by kernel_rfl) (by simp) ?_
        refine AllReadyH.cons rfl (fun K' hK' => ?_) AllReadyH.nil
        go_simp
        go_wp2_with fail
        refine (HTo'.out _ (Arg.rows S')).mono ?_
        rintro e wv ⟨v31, rfl, i1, bA⟩
        have S := Arg.next S bA
        have S' := Arg.next S' bA
        have Z := Lib.hid (Gb.next Z.out bA)
        have CK := bel_next CK bA
        have GK := Cpy.next GK bA
        have N31 := Lib.hid i1.shapeN
        have I31 := Lib.hid i1.at
        have I29 := Lib.hid (I29.out.below bA (Nat.le_refl _))
        refine hK'.out _ _ ⟨S.out.2.2.1.cells, S'.out.2.2.1.cells⟩ (fun hHeld => ?_)
        clear hK' K'
        clear i1 bA
        refine wpAnyH_ready (rs := [4]) (by kernel_rfl) (by simp) ?_
        refine AllReadyH.cons rfl (fun K' hK' => ?_) AllReadyH.nil
        obtain ⟨b0, hb0⟩ : ∃ b, (wv).heap.size = b := ⟨_, rfl⟩
        have zb : P2 < b0 := by rw [← hb0]; exact Z.out.lt
        go_simp
        go_wp2_with fail
        refine (HI.out _ _ _ I29.out I31.out (TB.out _ S.out.2.2.2)).mono ?_
        rintro e wv ⟨u4, rfl, i4, bA⟩
        obtain ⟨a5, l5, q5, rfl⟩ : ∃ a l c, u4 = .slice a l c := by obtain ⟨a, c, e, -⟩ := i4.at.shape; exact ⟨a, _, c, e⟩
        have S := Arg.next S bA
        have S' := Arg.next S' bA
        have Z := Lib.hid (Gb.next Z.out bA)
        have CK := bel_next CK bA
        have GK := Cpy.next GK bA
        rw [hb0] at i4
        have R4 := Lib.hid i4
        refine hK'.out _ _ ⟨S.out.2.2.1.cells, S'.out.2.2.1.cells⟩ (fun hHeld => ?_)
        clear hK' K'
        clear i4 bA I29 I31 N29 N31
        refine wpAnyH_take (i := 5) (oi := { dst := some 94, op := Op.move (Operand.tmp 99), type := 41, pos := "exact.go:5400", after := #[{ on := 4, ground := Ground.data }], guard := none }) (v := ?_) rfl (by kernel_rfl) (by kernel_rfl) (by kernel_rfl) (fun _ _ _ h => h) (Or.inl ⟨by rfl, ?_⟩) (by assumption) ?_
        rotate_left
        · intro w hSw; (try dsimp only at hSw); go_simp
          try with_reducible rfl
        simp only [Act.put, List.setIfInBounds_toArray, List.set_cons_zero, List.set_cons_succ]
        refine wpAnyH_take (i := 6) (oi := { dst := some 100, op := Op.extract (Operand.tmp 94) 0, type := 27, pos := "exact.go:5400", after := #[{ on := 5, ground := Ground.data }], guard := none }) (v := ?_) rfl (by kernel_rfl) (by kernel_rfl) (by kernel_rfl) (fun _ _ _ h => h) (Or.inl ⟨by rfl, ?_⟩) (by assumption) ?_
        rotate_left
        · intro w hSw; (try dsimp only at hSw); go_simp
          try with_reducible rfl
        simp only [Act.put, List.setIfInBounds_toArray, List.set_cons_zero, List.set_cons_succ]
        refine wpAnyH_take (i := 7) (oi := { dst := some 101, op := Op.extract (Operand.tmp 94) 1, type := 2, pos := "exact.go:5400", after := #[{ on := 5, ground := Ground.data }, { on := 9, ground := Ground.gcOnly Departure.lateStores }], guard := none }) (v := ?_) rfl (by kernel_rfl) (by kernel_rfl) (by kernel_rfl) (fun _ _ _ h => h) (Or.inl ⟨by rfl, ?_⟩) (by assumption) ?_
        rotate_left
        · intro w hSw; (try dsimp only at hSw); go_simp
          try with_reducible rfl
        simp only [Act.put, List.setIfInBounds_toArray, List.set_cons_zero, List.set_cons_succ]
        refine wpAnyH_ready (rs := [9]) (by kernel_rfl) (by simp) ?_
        refine AllReadyH.cons rfl (fun K' hK' => ?_) AllReadyH.nil
        obtain ⟨d0, d1, f0, f1⟩ := cells2 _ P2 _ _ _ Z.out
        go_simp
        have S := Arg.set S (show A < P2 by omega) (.int .i64 zn) (.slice a5 l5 q5)
        have S' := Arg.set S' AP (.int .i64 zn) (.slice a5 l5 q5)
        have CK := bel_set CK CP (.int .i64 zn) (.slice a5 l5 q5)
        have GK := Cpy.set GK GP (.int .i64 zn) (.slice a5 l5 q5)
        have GC : Hid (Gb ((wv.setCell ⟨P2, 0, none⟩ (.int .i64 zn)).setCell ⟨P2, 1, none⟩ (.slice a5 l5 q5)) P2 zn (.slice a5 l5 q5) 27) := set2_row _ _ _ _ _ _ _ Z.out
        have RC := Lib.hid (RowsL.off2 R4.out zb (.int .i64 zn) (.slice a5 l5 q5)).at
        refine hK'.out _ _ ⟨S.out.2.2.1.cells, S'.out.2.2.1.cells⟩ (fun hHeld => ?_)
        clear hK' K'
        refine wpAnyH_take (i := 10) (oi := { dst := some 16, op := Op.assign (Operand.tmp 101), type := 2, pos := "exact.go:5400", after := #[{ on := 7, ground := Ground.data }, { on := 9, ground := Ground.chain }, { on := 0, ground := Ground.phase }, { on := 1, ground := Ground.phase }, { on := 2, ground := Ground.phase }, { on := 3, ground := Ground.phase }, { on := 4, ground := Ground.phase }, { on := 5, ground := Ground.phase }, { on := 6, ground := Ground.phase }, { on := 7, ground := Ground.phase }, { on := 8, ground := Ground.phase }, { on := 9, ground := Ground.phase }], guard := none }) (v := ?_) rfl (by kernel_rfl) (by kernel_rfl) (by kernel_rfl) (fun _ _ _ h => h) (Or.inl ⟨by rfl, ?_⟩) (by assumption) ?_
        rotate_left
        · intro w hSw; (try dsimp only at hSw); go_simp
          try with_reducible rfl
        simp only [Act.put, List.setIfInBounds_toArray, List.set_cons_zero, List.set_cons_succ]
        refine wpAnyH_done (by kernel_rfl) ?_ _
        clear hHeld
        obtain ⟨w9, hw9⟩ : ∃ W, (wv.setCell ⟨P2, 0, none⟩ (.int .i64 zn)).setCell ⟨P2, 1, none⟩ (.slice a5 l5 q5) = W := ⟨_, rfl⟩
        rw [hw9] at GC RC S S' CK GK
        rw [hw9]
        clear d0 d1 f0 f1 hw9 R4 Z AP hP2 hb0 zb GP CP
    rotate_left 3
    focus
      go_simp
      obtain ⟨P2, hP2⟩ : ∃ P, (wj.drew).heap.size = P := ⟨_, rfl⟩
      have bz : Below (wj.drew).heap.size (wj.drew) ((wj.drew).alloc (.cells #[.int .i64 0, .slice none 0 0] 27)) := (Below.refl _ _).alloc (Nat.le_refl _) _
      have AP : A' < P2 := by rw [← hP2]; exact S'.out.2.2.1.lt
      have GP : P1 < P2 := by rw [← hP2]; exact GK.out.1.lt
      have CP : wC.heap.size ≤ P2 := by rw [← hP2]; exact CK.out.size
      have S := Arg.next S bz
      have S' := Arg.next S' bz
      have CK := bel_next CK bz
      have GK := Cpy.next GK bz
      have Z : Hid (Gb ((wj.drew).alloc (.cells #[.int .i64 0, .slice none 0 0] 27)) P2 0 (.slice none 0 0) 27) := by rw [← hP2]; exact heap_alloc_new _ _
      -- have I29 := Lib.hid (I29.out.below bz (Nat.le_refl _))
      -- have I31 := Lib.hid (I31.out.below bz (Nat.le_refl _))
      obtain ⟨wy, hwy⟩ : ∃ w', (wj.drew).alloc (.cells #[.int .i64 0, .slice none 0 0] 27) = w' := ⟨_, rfl⟩
      rw [show (wj.alloc (.cells #[.int .i64 0, .slice none 0 0] 27)).drew = wj.drew.alloc (.cells #[.int .i64 0, .slice none 0 0] 27) from rfl]
      have hP2' : wj.heap.size = P2 := hP2
      rw [hwy] at Z S S' CK GK
      try rw [hP2]
      try rw [hP2']
      rw [hwy]
      clear hP2'
      refine hK'.out _ _ ⟨S.out.2.2.1.cells, S'.out.2.2.1.cells⟩ (fun hHeld => ?_)
      clear hK' K'
      clear bz hwy
      refine wpAnyH_ready (rs := [1]) (by kernel_rfl) (by simp) ?_
      refine AllReadyH.cons rfl (fun K' hK' => ?_) AllReadyH.nil
      go_simp
      go_wp2_with fail
      refine (HTo.out _ (Arg.rows S)).mono ?_
      rintro e wv ⟨v29, rfl, i1, bA⟩
      have S := Arg.next S bA
      have S' := Arg.next S' bA
      have Z := Lib.hid (Gb.next Z.out bA)
      have CK := bel_next CK bA
      have GK := Cpy.next GK bA
      have N29 := Lib.hid i1.shapeN
      have I29 := Lib.hid i1.at
      refine hK'.out _ _ ⟨S.out.2.2.1.cells, S'.out.2.2.1.cells⟩ (fun hHeld => ?_)
      clear hK' K'
      clear i1 bA
      refine wpAnyH_ready (rs := [3]) (by kernel_rfl) (by simp) ?_
      refine AllReadyH.cons rfl (fun K' hK' => ?_) AllReadyH.nil
      go_simp
      go_wp2_with fail
      refine (HTo'.out _ (Arg.rows S')).mono ?_
      rintro e wv ⟨v31, rfl, i1, bA⟩
      have S := Arg.next S bA
      have S' := Arg.next S' bA
      have Z := Lib.hid (Gb.next Z.out bA)
      have CK := bel_next CK bA
      have GK := Cpy.next GK bA
      have N31 := Lib.hid i1.shapeN
      have I31 := Lib.hid i1.at
      have I29 := Lib.hid (I29.out.below bA (Nat.le_refl _))
      refine hK'.out _ _ ⟨S.out.2.2.1.cells, S'.out.2.2.1.cells⟩ (fun hHeld => ?_)
      clear hK' K'
      clear i1 bA
      refine wpAnyH_ready (rs := [4]) (by kernel_rfl) (by simp) ?_
      refine AllReadyH.cons rfl (fun K' hK' => ?_) AllReadyH.nil
      obtain ⟨b0, hb0⟩ : ∃ b, (wv).heap.size = b := ⟨_, rfl⟩
      have zb : P2 < b0 := by rw [← hb0]; exact Z.out.lt
      go_simp
      go_wp2_with fail
      refine (HI.out _ _ _ I29.out I31.out (TB.out _ S.out.2.2.2)).mono ?_
      rintro e wv ⟨u4, rfl, i4, bA⟩
      obtain ⟨a5, l5, q5, rfl⟩ : ∃ a l c, u4 = .slice a l c := by obtain ⟨a, c, e, -⟩ := i4.at.shape; exact ⟨a, _, c, e⟩
      have S := Arg.next S bA
      have S' := Arg.next S' bA
      have Z := Lib.hid (Gb.next Z.out bA)
      have CK := bel_next CK bA
      have GK := Cpy.next GK bA
      rw [hb0] at i4
      have R4 := Lib.hid i4
      refine hK'.out _ _ ⟨S.out.2.2.1.cells, S'.out.2.2.1.cells⟩ (fun hHeld => ?_)
      clear hK' K'
      clear i4 bA I29 I31 N29 N31
      refine wpAnyH_take (i := 5) (oi := { dst := some 94, op := Op.move (Operand.tmp 99), type := 41, pos := "exact.go:5400", after := #[{ on := 4, ground := Ground.data }], guard := none }) (v := ?_) rfl (by kernel_rfl) (by kernel_rfl) (by kernel_rfl) (fun _ _ _ h => h) (Or.inl ⟨by rfl, ?_⟩) (by assumption) ?_
      rotate_left
      · intro w hSw; (try dsimp only at hSw); go_simp
        try with_reducible rfl
      simp only [Act.put, List.setIfInBounds_toArray, List.set_cons_zero, List.set_cons_succ]
      refine wpAnyH_take (i := 6) (oi := { dst := some 100, op := Op.extract (Operand.tmp 94) 0, type := 27, pos := "exact.go:5400", after := #[{ on := 5, ground := Ground.data }], guard := none }) (v := ?_) rfl (by kernel_rfl) (by kernel_rfl) (by kernel_rfl) (fun _ _ _ h => h) (Or.inl ⟨by rfl, ?_⟩) (by assumption) ?_
      rotate_left
      · intro w hSw; (try dsimp only at hSw); go_simp
        try with_reducible rfl
      simp only [Act.put, List.setIfInBounds_toArray, List.set_cons_zero, List.set_cons_succ]
      refine wpAnyH_take (i := 7) (oi := { dst := some 101, op := Op.extract (Operand.tmp 94) 1, type := 2, pos := "exact.go:5400", after := #[{ on := 5, ground := Ground.data }, { on := 9, ground := Ground.gcOnly Departure.lateStores }], guard := none }) (v := ?_) rfl (by kernel_rfl) (by kernel_rfl) (by kernel_rfl) (fun _ _ _ h => h) (Or.inl ⟨by rfl, ?_⟩) (by assumption) ?_
      rotate_left
      · intro w hSw; (try dsimp only at hSw); go_simp
        try with_reducible rfl
      simp only [Act.put, List.setIfInBounds_toArray, List.set_cons_zero, List.set_cons_succ]
      refine wpAnyH_ready (rs := [9]) (by kernel_rfl) (by simp) ?_
      refine AllReadyH.cons rfl (fun K' hK' => ?_) AllReadyH.nil
      obtain ⟨d0, d1, f0, f1⟩ := cells2 _ P2 _ _ _ Z.out
      go_simp
      have S := Arg.set S (show A < P2 by omega) (.int .i64 zn) (.slice a5 l5 q5)
      have S' := Arg.set S' AP (.int .i64 zn) (.slice a5 l5 q5)
      have CK := bel_set CK CP (.int .i64 zn) (.slice a5 l5 q5)
      have GK := Cpy.set GK GP (.int .i64 zn) (.slice a5 l5 q5)
      have GC : Hid (Gb ((wv.setCell ⟨P2, 0, none⟩ (.int .i64 zn)).setCell ⟨P2, 1, none⟩ (.slice a5 l5 q5)) P2 zn (.slice a5 l5 q5) 27) := set2_row _ _ _ _ _ _ _ Z.out
      have RC := Lib.hid (RowsL.off2 R4.out zb (.int .i64 zn) (.slice a5 l5 q5)).at
      refine hK'.out _ _ ⟨S.out.2.2.1.cells, S'.out.2.2.1.cells⟩ (fun hHeld => ?_)
      clear hK' K'
      refine wpAnyH_take (i := 10) (oi := { dst := some 16, op := Op.assign (Operand.tmp 101), type := 2, pos := "exact.go:5400", after := #[{ on := 7, ground := Ground.data }, { on := 9, ground := Ground.chain }, { on := 0, ground := Ground.phase }, { on := 1, ground := Ground.phase }, { on := 2, ground := Ground.phase }, { on := 3, ground := Ground.phase }, { on := 4, ground := Ground.phase }, { on := 5, ground := Ground.phase }, { on := 6, ground := Ground.phase }, { on := 7, ground := Ground.phase }, { on := 8, ground := Ground.phase }, { on := 9, ground := Ground.phase }], guard := none }) (v := ?_) rfl (by kernel_rfl) (by kernel_rfl) (by kernel_rfl) (fun _ _ _ h => h) (Or.inl ⟨by rfl, ?_⟩) (by assumption) ?_
      rotate_left
      · intro w hSw; (try dsimp only at hSw); go_simp
        try with_reducible rfl
      simp only [Act.put, List.setIfInBounds_toArray, List.set_cons_zero, List.set_cons_succ]
      refine wpAnyH_done (by kernel_rfl) ?_ _
      clear hHeld
      obtain ⟨w9, hw9⟩ : ∃ W, (wv.setCell ⟨P2, 0, none⟩ (.int .i64 zn)).setCell ⟨P2, 1, none⟩ (.slice a5 l5 q5) = W := ⟨_, rfl⟩
      rw [hw9] at GC RC S S' CK GK
      rw [hw9]
      clear d0 d1 f0 f1 hw9 R4 Z AP hP2 hb0 zb GP CP
    all_goals
      obtain ⟨c0, c1⟩ := (CD.out _ CK.out).1
      obtain ⟨d0, d1⟩ := GC.out.cells
      go_wp2_with fail
      refine (eq_Design _ zn _ _ zl RC.out (CD.out _ CK.out).2).mono ?_
      rintro e wl ⟨rfl, bl⟩
      have S30 := Arg.next S bl
      have G30 := Cpy.next GK bl
      clear bl c0 c1 d0 d1 S S' CK GK GC RC
      obtain ⟨d0, d1⟩ := Cpy.cells G30
      go_wp2_with fail
      refine (held_Design _ zn _ zl 1 (Cpy.at G30) (by omega) (by omega)).mono ?_
      rintro e wm ⟨rfl, bm⟩
      rw [HQ2.out]
      have S31 := Arg.next S30 bm
      clear bm d0 d1 S30 G30
      go_wp2
      go_ret
      exact ⟨rfl, S31.out.2.2.2⟩
end Go.Proofs.YtdhlnagkhkcoiaaDoor
