/- IntercalatesOf, SwitchIntercalate: the program's test of two rows and two columns. -/
import Derived.Test.YtodlcjdbpibacaaFil
import Derived.Deep.MidRow
namespace Go.Proofs.Ytodlcjdbpibacaa
open Go.RowKit Go.Shelf
set_option linter.unusedVariables false

theorem iar_extract (n : Nat) (c : Nat → Int) (o k : Nat) (h : o + k ≤ n) : (iar n c).extract o (o + k) = iar k (fun i => c (o + i)) := by
  apply Array.ext
  · rw [Array.size_extract, iar_size, iar_size]; omega
  · intro i h1 h2
    rw [iar_size] at h2
    have a := iar_get n c (o + i) (by omega)
    have b := iar_get k (fun i => c (o + i)) i h2
    rw [Array.getElem?_eq_getElem (by rw [iar_size]; omega)] at a
    rw [Array.getElem?_eq_getElem (by rw [iar_size]; omega)] at b
    rw [Array.getElem_extract, Option.some.inj a, Option.some.inj b]

set_option maxRecDepth 100000 in
set_option maxHeartbeats 4000000 in
theorem iicl (n : Nat) (hn : n ≤ 10) (w : World) (F : Nat → Nat → Int) (r s c d : Nat) (hr : r < n) (hs : s < n) (hc : c < n) (hd : d < n) :
    Calls Try.prog 20 #[.agg (iar 101 (sqC n F)), .int .i64 r, .int .i64 s, .int .i64 c, .int .i64 d] w fun e w' => e = .returned (.bool (F r c == F s d && F r d == F s c)) ∧ Below w.heap.size w w' := by
  obtain ⟨g, hg⟩ : ∃ g, w.heap.size = g := ⟨_, rfl⟩
  have b1 : Below g w (w.alloc (.cells (iar 101 (sqC n F)) 38)) := (Below.refl _ _).alloc (by omega) _
  have A1 : SqAt (w.alloc (.cells (iar 101 (sqC n F)) 38)) g n F := by rw [← hg]; exact heap_alloc_new _ _
  have s1 : (w.alloc (.cells (iar 101 (sqC n F)) 38)).heap.size = g + 1 := by rw [World.size_alloc, hg]
  obtain ⟨w1, hw1⟩ : ∃ w1, w.alloc (.cells (iar 101 (sqC n F)) 38) = w1 := ⟨_, rfl⟩
  rw [hw1] at b1 A1 s1
  have E : ∀ x, x < n → (iar 101 (sqC n F)).extract (1 + x * 10) (1 + x * 10 + 10) = iar 10 (F x) := fun x hx => by
    rw [iar_extract 101 _ _ _ (by omega)]
    exact iar_congr (fun i hi => sqC_at n F hi)
  obtain ⟨A, hA⟩ : ∃ A : List Value, (iar 10 (F r)).toList = A := ⟨_, rfl⟩
  obtain ⟨C, hC⟩ : ∃ C : List Value, (iar 10 (F s)).toList = C := ⟨_, rfl⟩
  have hAA : A.toArray = iar 10 (F r) := by rw [← hA]
  have hCA : C.toArray = iar 10 (F s) := by rw [← hC]
  have hAl : A.length = 10 := by rw [← hA, Array.length_toList, iar_size]
  have hCl : C.length = 10 := by rw [← hC, Array.length_toList, iar_size]
  have KEY : Hid (∀ W : World, Hid (SqAt W g n F ∧ Below g w W) → W.rangeAt g (1 + r * 10) A ∧ W.rangeAt g (1 + s * 10) C ∧ Hid (SqAt W g n F ∧ Below g w W)) := fun W h => by
    refine ⟨?_, ?_, h⟩
    · rw [← hA, ← E r hr]; exact World.rangeAt_of_block h.out.1 _ 10
    · rw [← hC, ← E s hs]; exact World.rangeAt_of_block h.out.1 _ 10
  have X1 : Hid (SqAt w1.drew g n F ∧ Below g w w1.drew) := ⟨A1, b1.drew⟩
  have iA : (Try.prog.info? 34).map (·.size) = some A.length := by rw [hAl]; kernel_rfl
  have iC : (Try.prog.info? 34).map (·.size) = some C.length := by rw [hCl]; kernel_rfl
  have uR := Try.underlying34
  have r0 : (0 : Int) ≤ (r : Int) := by omega
  have r1 : (r : Int) < 10 := by omega
  have s0 : (0 : Int) ≤ (s : Int) := by omega
  have s2 : (s : Int) < 10 := by omega
  have c0 : (0 : Int) ≤ (c : Int) := by omega
  have c1 : (c : Int) < 10 := by omega
  have d0 : (0 : Int) ≤ (d : Int) := by omega
  have d1 : (d : Int) < 10 := by omega
  have HE := Lib.hid hg
  obtain ⟨u1, h1⟩ : ∃ u, F r c = u := ⟨_, rfl⟩
  obtain ⟨u2, h2⟩ : ∃ u, F s d = u := ⟨_, rfl⟩
  obtain ⟨u3, h3⟩ : ∃ u, F r d = u := ⟨_, rfl⟩
  obtain ⟨u4, h4⟩ : ∃ u, F s c = u := ⟨_, rfl⟩
  obtain ⟨t1, f1⟩ : ∃ t, (u1 == u2) = t := ⟨_, rfl⟩
  obtain ⟨t2, f2⟩ : ∃ t, (u3 == u4) = t := ⟨_, rfl⟩
  rw [h1, h2, h3, h4, f1, f2]
  have MM : Hid (∀ (W : World) (p q : Nat), Ia W 34 p 10 (F r) → Ia W 34 q 10 (F s) → W.cell? ⟨p, c, none⟩ = some (.int .i64 u1) ∧ W.cell? ⟨q, d, none⟩ = some (.int .i64 u2) ∧ W.cell? ⟨p, d, none⟩ = some (.int .i64 u3) ∧ W.cell? ⟨q, c, none⟩ = some (.int .i64 u4)) := fun W p q a b => by
    rw [← h1, ← h2, ← h3, ← h4]
    exact ⟨a.cell c (by omega), b.cell d (by omega), a.cell d (by omega), b.cell c (by omega)⟩
  have Z10 : #[Value.int .i64 0, .int .i64 0, .int .i64 0, .int .i64 0, .int .i64 0, .int .i64 0, .int .i64 0, .int .i64 0, .int .i64 0, .int .i64 0] = iar 10 (fun _ => 0) := by rfl
  obtain ⟨w2, hw2⟩ : ∃ w2, w1.alloc (.cells #[.int .i64 0, .int .i64 0, .int .i64 0, .int .i64 0, .int .i64 0, .int .i64 0, .int .i64 0, .int .i64 0, .int .i64 0, .int .i64 0] 34) = w2 := ⟨_, rfl⟩
  have s3 : w2.heap.size = g + 2 := by rw [← hw2, World.size_alloc, s1]
  obtain ⟨w3, hw3⟩ : ∃ w3, w2.alloc (.cells #[.int .i64 0, .int .i64 0, .int .i64 0, .int .i64 0, .int .i64 0, .int .i64 0, .int .i64 0, .int .i64 0, .int .i64 0, .int .i64 0] 34) = w3 := ⟨_, rfl⟩
  have P1 : Ia w2 34 (g + 1) 10 (fun _ => 0) := by rw [← hw2, Z10, ← s1]; exact heap_alloc_new _ _
  have P2 : Ia w3.drew 34 (g + 1) 10 (fun _ => 0) := by rw [← hw3]; exact (heap_alloc_old _ _ (by omega)).trans P1
  have P3 : Ia w3.drew 34 (g + 2) 10 (fun _ => 0) := by rw [← hw3, Z10, ← s3]; exact heap_alloc_new _ _
  have X2 : Hid (SqAt w2.drew g n F ∧ Below g w w2.drew) := by
    rw [← hw2]; exact ⟨(heap_alloc_old _ _ (by omega)).trans A1, (b1.alloc (by omega) _).drew⟩
  have X3 : Hid (SqAt w3.drew g n F ∧ Below g w w3.drew) := by
    rw [← hw3]; exact ⟨(heap_alloc_old _ _ (by omega)).trans X2.out.1, ((X2.out.2 : Below g w w2.drew).alloc (by rw [World.size_drew]; omega) _)⟩
  have KS : Hid (∀ (W : World) (p : Nat) (x : Array Value), g < p → Hid (SqAt W g n F ∧ Below g w W) → Hid (SqAt (W.setRow p x) g n F ∧ Below g w (W.setRow p x))) := fun W p x hp h =>
    ⟨(setRow_other W p g x (by omega)).trans h.out.1, below_row h.out.2 (by omega) x⟩
  have SS : Hid (∀ (W : World) (p q : Nat), p ≠ q → Ia W 34 p 10 (fun _ => 0) → Ia W 34 q 10 (fun _ => 0) → Ia (W.setRow p (iar 10 (F r))) 34 q 10 (fun _ => 0) ∧ Ia ((W.setRow p (iar 10 (F r))).setRow q (iar 10 (F s))) 34 p 10 (F r) ∧ Ia ((W.setRow p (iar 10 (F r))).setRow q (iar 10 (F s))) 34 q 10 (F s)) := fun W p q hpq a b => by
    have a1 : Ia (W.setRow p (iar 10 (F r))) 34 p 10 (F r) := setRow_heap _ _ _ _ _ _ a
    have b1 : Ia (W.setRow p (iar 10 (F r))) 34 q 10 (fun _ => 0) := (setRow_other _ _ _ _ (by omega)).trans b
    exact ⟨b1, (setRow_other _ _ _ _ (by omega)).trans a1, setRow_heap _ _ _ _ _ _ b1⟩
  have S12 := SS.out w3.drew (g + 1) (g + 2) (by omega) P2 P3
  have S21 := SS.out w3.drew (g + 2) (g + 1) (by omega) P3 P2
  have H2 := Lib.hid P2
  have H3 := Lib.hid P3
  have H12 := Lib.hid S12
  have H21 := Lib.hid S21
  have i10 : (Try.prog.info? 34).map (·.size) = some (iar 10 (F r)).size := by rw [iar_size]; kernel_rfl
  have i11 : (Try.prog.info? 34).map (·.size) = some (iar 10 (F s)).size := by rw [iar_size]; kernel_rfl
  have HW2 := Lib.hid hw2
  have HW3 := Lib.hid hw3
  clear h1 h2 h3 h4 P1 P2 P3 Z10 S12 S21 SS
  clear hA hC hAl hCl E b1 A1 hw2 hw3
  go_enter Try.func20, Try.ntmps20
  go_wp2
  refine wp_region_held_drew (S := fun W => W.rangeAt g (1 + r * 10) A ∧ W.rangeAt g (1 + s * 10) C ∧ Hid (SqAt W g n F ∧ Below g w W)) (by kernel_rfl) (KEY.out _ X1) (fun hHeld => ?_)
  refine wpAnyH_take (i := 0) (oi := { dst := some 13, op := Op.move (Operand.tmp 1), type := 2, pos := "l08_quasigroups.go:213", after := #[], guard := none }) (v := ?_) rfl (by kernel_rfl) (by kernel_rfl) (by kernel_rfl) (fun _ _ _ h => h) (Or.inl ⟨by rfl, ?_⟩) (by assumption) ?_
  rotate_left
  · intro w hSw; (try dsimp only at hSw); go_simp
    try with_reducible rfl
  simp only [Act.put, List.setIfInBounds_toArray, List.set_cons_zero, List.set_cons_succ]
  refine wpAnyH_take (i := 1) (oi := { dst := some 14, op := Op.fieldAddr 38 (Operand.tmp 5) 1, type := 0, pos := "l08_quasigroups.go:213", after := #[], guard := none }) (v := ?_) rfl (by kernel_rfl) (by kernel_rfl) (by kernel_rfl) (fun _ _ _ h => h) (Or.inl ⟨by rfl, ?_⟩) (by assumption) ?_
  rotate_left
  · intro w hSw; (try dsimp only at hSw); go_simp
    try with_reducible rfl
  simp only [Act.put, List.setIfInBounds_toArray, List.set_cons_zero, List.set_cons_succ]
  refine wpAnyH_take (i := 2) (oi := { dst := some 15, op := Op.indexAddr 36 (Operand.tmp 14) (Operand.tmp 13), type := 0, pos := "l08_quasigroups.go:213", after := #[{ on := 1, ground := Ground.data }, { on := 0, ground := Ground.data }], guard := none }) (v := ?_) rfl (by kernel_rfl) (by kernel_rfl) (by kernel_rfl) (fun _ _ _ h => h) (Or.inl ⟨by rfl, ?_⟩) (by assumption) ?_
  rotate_left
  · intro w hSw; (try dsimp only at hSw); go_simp
    try with_reducible rfl
  simp only [Act.put, List.setIfInBounds_toArray, List.set_cons_zero, List.set_cons_succ]
  refine wpAnyH_take (i := 3) (oi := { dst := some 16, op := Op.load 34 (Operand.tmp 15), type := 34, pos := "l08_quasigroups.go:213", after := #[{ on := 2, ground := Ground.data }], guard := none }) rfl (by kernel_rfl) (by kernel_rfl) (by kernel_rfl) (fun _ _ _ h => h) (yieldsIf_load_mid (by rfl) _ _ rfl g (1 + r * 10) rfl A _ (fun w hSw => hSw.1) uR rfl iA) (by assumption) ?_
  simp only [Act.put, List.setIfInBounds_toArray, List.set_cons_zero, List.set_cons_succ]
  refine wpAnyH_take (i := 4) (oi := { dst := some 17, op := Op.move (Operand.tmp 2), type := 2, pos := "l08_quasigroups.go:213", after := #[{ on := 10, ground := Ground.gcOnly Departure.lateStores }], guard := none }) (v := ?_) rfl (by kernel_rfl) (by kernel_rfl) (by kernel_rfl) (fun _ _ _ h => h) (Or.inl ⟨by rfl, ?_⟩) (by assumption) ?_
  rotate_left
  · intro w hSw; (try dsimp only at hSw); go_simp
    try with_reducible rfl
  simp only [Act.put, List.setIfInBounds_toArray, List.set_cons_zero, List.set_cons_succ]
  refine wpAnyH_take (i := 5) (oi := { dst := some 18, op := Op.fieldAddr 38 (Operand.tmp 5) 1, type := 0, pos := "l08_quasigroups.go:213", after := #[{ on := 10, ground := Ground.gcOnly Departure.lateStores }], guard := none }) (v := ?_) rfl (by kernel_rfl) (by kernel_rfl) (by kernel_rfl) (fun _ _ _ h => h) (Or.inl ⟨by rfl, ?_⟩) (by assumption) ?_
  rotate_left
  · intro w hSw; (try dsimp only at hSw); go_simp
    try with_reducible rfl
  simp only [Act.put, List.setIfInBounds_toArray, List.set_cons_zero, List.set_cons_succ]
  refine wpAnyH_take (i := 6) (oi := { dst := some 19, op := Op.indexAddr 36 (Operand.tmp 18) (Operand.tmp 17), type := 0, pos := "l08_quasigroups.go:213", after := #[{ on := 5, ground := Ground.data }, { on := 4, ground := Ground.data }, { on := 10, ground := Ground.gcOnly Departure.lateStores }], guard := none }) (v := ?_) rfl (by kernel_rfl) (by kernel_rfl) (by kernel_rfl) (fun _ _ _ h => h) (Or.inl ⟨by rfl, ?_⟩) (by assumption) ?_
  rotate_left
  · intro w hSw; (try dsimp only at hSw); go_simp
    try with_reducible rfl
  simp only [Act.put, List.setIfInBounds_toArray, List.set_cons_zero, List.set_cons_succ]
  refine wpAnyH_take (i := 7) (oi := { dst := some 20, op := Op.load 34 (Operand.tmp 19), type := 34, pos := "l08_quasigroups.go:213", after := #[{ on := 6, ground := Ground.data }, { on := 10, ground := Ground.gcOnly Departure.lateStores }], guard := none }) rfl (by kernel_rfl) (by kernel_rfl) (by kernel_rfl) (fun _ _ _ h => h) (yieldsIf_load_mid (by rfl) _ _ rfl g (1 + s * 10) rfl C _ (fun w hSw => hSw.2.1) uR rfl iC) (by assumption) ?_
  simp only [Act.put, List.setIfInBounds_toArray, List.set_cons_zero, List.set_cons_succ]
  refine wpAnyH_ready (rs := [8, 9]) (by kernel_rfl) (by simp) ?_
  refine AllReadyH.cons rfl (fun K hK => ?_) ?_
  · go_simp
    refine hK.out _ _ ?_ (fun hHeld => ?_)
    · exact KEY.out _ (by rw [HW2.out]; exact X2)
    clear hK K
    refine wpAnyH_ready (rs := [9]) (by kernel_rfl) (by simp) ?_
    refine AllReadyH.cons rfl (fun K hK => ?_) AllReadyH.nil
    rw [HW2.out]
    go_simp
    refine hK.out _ _ ?_ (fun hHeld => ?_)
    · exact KEY.out _ (by rw [HW3.out]; exact X3)
    clear hK K
    rw [HW3.out]
    refine wpAnyH_ready (rs := [10]) (by kernel_rfl) (by simp) ?_
    refine AllReadyH.cons rfl (fun K hK => ?_) AllReadyH.nil
    refine wp_store_row (o := { dst := none, op := Op.store 34 (Operand.tmp 11) (Operand.tmp 16), type := 0, pos := "l08_quasigroups.go:213", after := #[{ on := 8, ground := Ground.data }, { on := 3, ground := Ground.data }, { on := 0, ground := Ground.phase }, { on := 1, ground := Ground.phase }, { on := 2, ground := Ground.phase }, { on := 3, ground := Ground.phase }, { on := 4, ground := Ground.textOnly Departure.lateStores }, { on := 5, ground := Ground.textOnly Departure.lateStores }, { on := 6, ground := Ground.textOnly Departure.lateStores }, { on := 7, ground := Ground.textOnly Departure.lateStores }, { on := 8, ground := Ground.phase }, { on := 9, ground := Ground.phase }], guard := none }) 34 (.tmp 11) (.tmp 16) rfl (g + 1) (iar 10 (F r)) rfl rfl _ _ H2.out i10 (by rw [iar_size, iar_size]) (iar_one _ _) ?_
    simp only [Act.put]
    refine hK.out _ _ (KEY.out _ (KS.out _ _ _ (by omega) X3)) (fun hHeld => ?_)
    clear hK K
    refine wpAnyH_ready (rs := [11]) (by kernel_rfl) (by simp) ?_
    refine AllReadyH.cons rfl (fun K hK => ?_) AllReadyH.nil
    refine wp_store_row (o := { dst := none, op := Op.store 34 (Operand.tmp 12) (Operand.tmp 20), type := 0, pos := "l08_quasigroups.go:213", after := #[{ on := 9, ground := Ground.data }, { on := 7, ground := Ground.data }, { on := 10, ground := Ground.chain }, { on := 0, ground := Ground.phase }, { on := 1, ground := Ground.phase }, { on := 2, ground := Ground.phase }, { on := 3, ground := Ground.phase }, { on := 4, ground := Ground.phase }, { on := 5, ground := Ground.phase }, { on := 6, ground := Ground.phase }, { on := 7, ground := Ground.phase }, { on := 8, ground := Ground.phase }, { on := 9, ground := Ground.phase }, { on := 10, ground := Ground.phase }], guard := none }) 34 (.tmp 12) (.tmp 20) rfl (g + 2) (iar 10 (F s)) rfl rfl _ _ H12.out.1 i11 (by rw [iar_size, iar_size]) (iar_one _ _) ?_
    simp only [Act.put]
    have X5 := KS.out _ (g + 2) (iar 10 (F s)) (by omega) (KS.out _ (g + 1) (iar 10 (F r)) (by omega) X3)
    refine hK.out _ _ (KEY.out _ X5) (fun hHeld => ?_)
    clear hK K
    refine wpAnyH_done (by kernel_rfl) ?_ _
    obtain ⟨m1, m2, m3, m4⟩ := MM.out _ _ _ H12.out.2.1 H12.out.2.2
    have BB := Lib.hid X5.out.2
    clear X5
    obtain ⟨w5, hw5⟩ : ∃ w5, (w3.drew.setRow (g + 1) (iar 10 (F r))).setRow (g + 2) (iar 10 (F s)) = w5 := ⟨_, rfl⟩
    rw [hw5] at m1 m2 m3 m4 BB ⊢
    clear hw5 HW2 HW3 MM H12 H21 H2 H3 KS X2 X3 KEY
    clear hHeld
    cases t1 <;> cases t2 <;> (go_wp2; go_quiet (fail); go_wp2; go_ret; exact ⟨rfl, by rw [HE.out]; first | exact BB.out | exact Go.below_drewN BB.out _ | exact (show Below g w w5 from BB.out).drew⟩)
  refine AllReadyH.cons rfl (fun K hK => ?_) ?_
  · go_simp
    refine hK.out _ _ ?_ (fun hHeld => ?_)
    · exact KEY.out _ (by rw [HW2.out]; exact X2)
    clear hK K
    refine wpAnyH_ready (rs := [8]) (by kernel_rfl) (by simp) ?_
    refine AllReadyH.cons rfl (fun K hK => ?_) AllReadyH.nil
    rw [HW2.out]
    go_simp
    refine hK.out _ _ ?_ (fun hHeld => ?_)
    · exact KEY.out _ (by rw [HW3.out]; exact X3)
    clear hK K
    rw [HW3.out]
    refine wpAnyH_ready (rs := [10]) (by kernel_rfl) (by simp) ?_
    refine AllReadyH.cons rfl (fun K hK => ?_) AllReadyH.nil
    refine wp_store_row (o := { dst := none, op := Op.store 34 (Operand.tmp 11) (Operand.tmp 16), type := 0, pos := "l08_quasigroups.go:213", after := #[{ on := 8, ground := Ground.data }, { on := 3, ground := Ground.data }, { on := 0, ground := Ground.phase }, { on := 1, ground := Ground.phase }, { on := 2, ground := Ground.phase }, { on := 3, ground := Ground.phase }, { on := 4, ground := Ground.textOnly Departure.lateStores }, { on := 5, ground := Ground.textOnly Departure.lateStores }, { on := 6, ground := Ground.textOnly Departure.lateStores }, { on := 7, ground := Ground.textOnly Departure.lateStores }, { on := 8, ground := Ground.phase }, { on := 9, ground := Ground.phase }], guard := none }) 34 (.tmp 11) (.tmp 16) rfl (g + 2) (iar 10 (F r)) rfl rfl _ _ H3.out i10 (by rw [iar_size, iar_size]) (iar_one _ _) ?_
    simp only [Act.put]
    refine hK.out _ _ (KEY.out _ (KS.out _ _ _ (by omega) X3)) (fun hHeld => ?_)
    clear hK K
    refine wpAnyH_ready (rs := [11]) (by kernel_rfl) (by simp) ?_
    refine AllReadyH.cons rfl (fun K hK => ?_) AllReadyH.nil
    refine wp_store_row (o := { dst := none, op := Op.store 34 (Operand.tmp 12) (Operand.tmp 20), type := 0, pos := "l08_quasigroups.go:213", after := #[{ on := 9, ground := Ground.data }, { on := 7, ground := Ground.data }, { on := 10, ground := Ground.chain }, { on := 0, ground := Ground.phase }, { on := 1, ground := Ground.phase }, { on := 2, ground := Ground.phase }, { on := 3, ground := Ground.phase }, { on := 4, ground := Ground.phase }, { on := 5, ground := Ground.phase }, { on := 6, ground := Ground.phase }, { on := 7, ground := Ground.phase }, { on := 8, ground := Ground.phase }, { on := 9, ground := Ground.phase }, { on := 10, ground := Ground.phase }], guard := none }) 34 (.tmp 12) (.tmp 20) rfl (g + 1) (iar 10 (F s)) rfl rfl _ _ H21.out.1 i11 (by rw [iar_size, iar_size]) (iar_one _ _) ?_
    simp only [Act.put]
    have X5 := KS.out _ (g + 1) (iar 10 (F s)) (by omega) (KS.out _ (g + 2) (iar 10 (F r)) (by omega) X3)
    refine hK.out _ _ (KEY.out _ X5) (fun hHeld => ?_)
    clear hK K
    refine wpAnyH_done (by kernel_rfl) ?_ _
    obtain ⟨m1, m2, m3, m4⟩ := MM.out _ _ _ H21.out.2.1 H21.out.2.2
    have BB := Lib.hid X5.out.2
    clear X5
    obtain ⟨w5, hw5⟩ : ∃ w5, (w3.drew.setRow (g + 2) (iar 10 (F r))).setRow (g + 1) (iar 10 (F s)) = w5 := ⟨_, rfl⟩
    rw [hw5] at m1 m2 m3 m4 BB ⊢
    clear hw5 HW2 HW3 MM H12 H21 H2 H3 KS X2 X3 KEY
    clear hHeld
    cases t1 <;> cases t2 <;> (go_wp2; go_quiet (fail); go_wp2; go_ret; exact ⟨rfl, by rw [HE.out]; first | exact BB.out | exact Go.below_drewN BB.out _ | exact (show Below g w w5 from BB.out).drew⟩)
  exact AllReadyH.nil
end Go.Proofs.Ytodlcjdbpibacaa
