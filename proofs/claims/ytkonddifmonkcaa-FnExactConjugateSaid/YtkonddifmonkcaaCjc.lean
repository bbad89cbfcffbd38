/- Conjugate: the program's closures. -/
import Derived.Test.YtkonddifmonkcaaCjv
import Derived.Test.YtkonddifmonkcaaMvd
import Derived.Deep.RegionHeld2
namespace Go.Proofs.Ytkonddifmonkcaa
open Go.RowKit Go.Shelf
set_option linter.unusedVariables false
set_option linter.unusedSimpArgs false

/-- The three methods of a cell. -/
def fid (i : Nat) : FuncId := if i = 0 then 63 else if i = 1 then 64 else 65
set_option maxHeartbeats 1000000 in
theorem icellm (i : Nat) (hi : i < 3) (x y : Nat) (z : Int) (W : World) : Calls Try.prog (fid i) #[.agg #[.int .i64 x, .int .i64 y, .int .i64 z]] W fun e W' => e = .returned (.int .i64 (cmp3 i x y z)) ∧ Below W.heap.size W W' := by
  rcases (show i = 0 ∨ i = 1 ∨ i = 2 by omega) with rfl | rfl | rfl
  · show Calls Try.prog 63 _ W _
    have B : Hid (Below W.heap.size W (W.alloc (.cells #[.int .i64 x, .int .i64 y, .int .i64 z] 72))) := (Below.refl _ _).alloc (Nat.le_refl _) _
    go_enter Try.func63, Try.ntmps63
    go_wp2
    go_ret
    exact ⟨rfl, B.out⟩
  · show Calls Try.prog 64 _ W _
    have B : Hid (Below W.heap.size W (W.alloc (.cells #[.int .i64 x, .int .i64 y, .int .i64 z] 72))) := (Below.refl _ _).alloc (Nat.le_refl _) _
    go_enter Try.func64, Try.ntmps64
    go_wp2
    go_ret
    exact ⟨rfl, B.out⟩
  · show Calls Try.prog 65 _ W _
    have B : Hid (Below W.heap.size W (W.alloc (.cells #[.int .i64 x, .int .i64 y, .int .i64 z] 72))) := (Below.refl _ _).alloc (Nat.le_refl _) _
    go_enter Try.func65, Try.ntmps65
    go_wp2
    go_ret
    exact ⟨rfl, B.out⟩
theorem efid (i : Nat) (hi : i < 3) : ∀ args W, (callFunc (fid i) args).run Try.prog W = .ok (.enter (fid i) args) W := by
  rcases (show i = 0 ∨ i = 1 ∨ i = 2 by omega) with rfl | rfl | rfl
  · exact enters_of Try.func63 (by kernel_rfl) rfl
  · exact enters_of Try.func64 (by kernel_rfl) rfl
  · exact enters_of Try.func65 (by kernel_rfl) rfl

set_option maxRecDepth 100000 in
set_option maxHeartbeats 8000000 in
theorem iconclo (W0 : World) (q0 q1 q2 p q s : Nat) (hp : p < 3) (hq : q < 3) (hs : s < 3) (h0 : W0.cell? ⟨q0, 0, none⟩ = some (.func (.func (fid p)) #[] #[])) (h1 : W0.cell? ⟨q1, 0, none⟩ = some (.func (.func (fid q)) #[] #[])) (h2 : W0.cell? ⟨q2, 0, none⟩ = some (.func (.func (fid s)) #[] #[])) (x y : Nat) (z : Int) :
    Calls Try.prog 68 #[.agg #[.int .i64 x, .int .i64 y, .int .i64 z], .pointer (some ⟨q0, 0, none⟩), .pointer (some ⟨q1, 0, none⟩), .pointer (some ⟨q2, 0, none⟩)] W0 fun e W' =>
      e = .returned (.agg #[.int .i64 (cmp3 p x y z), .int .i64 (cmp3 q x y z), .int .i64 (cmp3 s x y z)]) ∧ Below W0.heap.size W0 W' := by
  have C0 := Lib.hid (fun W => icellm p hp x y z W)
  have C1 := Lib.hid (fun W => icellm q hq x y z W)
  have C2 := Lib.hid (fun W => icellm s hs x y z W)
  have e0 := efid p hp
  have e1 := efid q hq
  have e2 := efid s hs
  obtain ⟨f0, hf0⟩ : ∃ f, fid p = f := ⟨_, rfl⟩
  obtain ⟨f1, hf1⟩ : ∃ f, fid q = f := ⟨_, rfl⟩
  obtain ⟨f2, hf2⟩ : ∃ f, fid s = f := ⟨_, rfl⟩
  obtain ⟨r0, hr0⟩ : ∃ r, cmp3 p x y z = r := ⟨_, rfl⟩
  obtain ⟨r1, hr1⟩ : ∃ r, cmp3 q x y z = r := ⟨_, rfl⟩
  obtain ⟨r2, hr2⟩ : ∃ r, cmp3 s x y z = r := ⟨_, rfl⟩
  simp only [hf0, hr0] at C0
  simp only [hf1, hr1] at C1
  simp only [hf2, hr2] at C2
  rw [hf0] at e0 h0
  rw [hf1] at e1 h1
  rw [hf2] at e2 h2
  rw [hr0, hr1, hr2]
  have l0 := World.block_lt_of_cell? W0 _ h0
  have l1 := World.block_lt_of_cell? W0 _ h1
  have l2 := World.block_lt_of_cell? W0 _ h2
  simp only at l0 l1 l2
  obtain ⟨g, hg⟩ : ∃ g, W0.heap.size = g := ⟨_, rfl⟩
  rw [hg] at l0 l1 l2
  have z1 : (W0.alloc (.cells #[.int .i64 x, .int .i64 y, .int .i64 z] 72)).heap.size = g + 1 := by rw [World.size_alloc, hg]
  have B1 : Below g W0 (W0.alloc (.cells #[.int .i64 x, .int .i64 y, .int .i64 z] 72)) := (Below.refl _ _).alloc (by omega) _
  have T1 : (W0.alloc (.cells #[.int .i64 x, .int .i64 y, .int .i64 z] 72)).heap[g]? = some (.cells #[.int .i64 x, .int .i64 y, .int .i64 z] 72 (0, 0)) := by rw [← hg]; exact heap_alloc_new _ _
  obtain ⟨w1, hw1⟩ : ∃ w1, W0.alloc (.cells #[.int .i64 x, .int .i64 y, .int .i64 z] 72) = w1 := ⟨_, rfl⟩
  rw [hw1] at z1 B1 T1
  have B2 : Below g W0 (w1.alloc (.cells #[.int .i64 0, .int .i64 0, .int .i64 0] 72)) := B1.alloc (by omega) _
  have T2 : (w1.alloc (.cells #[.int .i64 0, .int .i64 0, .int .i64 0] 72)).heap[g]? = some (.cells #[.int .i64 x, .int .i64 y, .int .i64 z] 72 (0, 0)) := (heap_alloc_old _ _ (by omega)).trans T1
  have Q2 : (w1.alloc (.cells #[.int .i64 0, .int .i64 0, .int .i64 0] 72)).heap[g + 1]? = some (.cells #[.int .i64 0, .int .i64 0, .int .i64 0] 72 (0, 0)) := by rw [← z1]; exact heap_alloc_new _ _
  obtain ⟨w2, hw2⟩ : ∃ w2, w1.alloc (.cells #[.int .i64 0, .int .i64 0, .int .i64 0] 72) = w2 := ⟨_, rfl⟩
  rw [hw2] at B2 T2 Q2
  have KEY : Hid (∀ W : World, Hid (W.cell? ⟨q0, 0, none⟩ = some (.func (.func f0) #[] #[]) ∧ W.cell? ⟨q1, 0, none⟩ = some (.func (.func f1) #[] #[]) ∧ W.cell? ⟨q2, 0, none⟩ = some (.func (.func f2) #[] #[]) ∧ W.heap[g]? = some (.cells #[.int .i64 x, .int .i64 y, .int .i64 z] 72 (0, 0)) ∧ (∃ c : Array Value, c.size = 3 ∧ W.heap[g + 1]? = some (.cells c 72 (0, 0))) ∧ Below g W0 W) → W.cell? ⟨q0, 0, none⟩ = some (.func (.func f0) #[] #[]) ∧ W.cell? ⟨q1, 0, none⟩ = some (.func (.func f1) #[] #[]) ∧ W.cell? ⟨q2, 0, none⟩ = some (.func (.func f2) #[] #[]) ∧ W.cell? ⟨g, 0, none⟩ = some (.int .i64 x) ∧ W.cell? ⟨g, 1, none⟩ = some (.int .i64 y) ∧ W.cell? ⟨g, 2, none⟩ = some (.int .i64 z) ∧ Hid (W.cell? ⟨q0, 0, none⟩ = some (.func (.func f0) #[] #[]) ∧ W.cell? ⟨q1, 0, none⟩ = some (.func (.func f1) #[] #[]) ∧ W.cell? ⟨q2, 0, none⟩ = some (.func (.func f2) #[] #[]) ∧ W.heap[g]? = some (.cells #[.int .i64 x, .int .i64 y, .int .i64 z] 72 (0, 0)) ∧ (∃ c : Array Value, c.size = 3 ∧ W.heap[g + 1]? = some (.cells c 72 (0, 0))) ∧ Below g W0 W)) := fun W h =>
    ⟨h.out.1, h.out.2.1, h.out.2.2.1, by rw [cell_of_row W g 0 _ _ _ h.out.2.2.2.1]; rfl, by rw [cell_of_row W g 1 _ _ _ h.out.2.2.2.1]; rfl, by rw [cell_of_row W g 2 _ _ _ h.out.2.2.2.1]; rfl, h⟩
  have NX : Hid (∀ V W : World, Below V.heap.size V W → Hid (V.cell? ⟨q0, 0, none⟩ = some (.func (.func f0) #[] #[]) ∧ V.cell? ⟨q1, 0, none⟩ = some (.func (.func f1) #[] #[]) ∧ V.cell? ⟨q2, 0, none⟩ = some (.func (.func f2) #[] #[]) ∧ V.heap[g]? = some (.cells #[.int .i64 x, .int .i64 y, .int .i64 z] 72 (0, 0)) ∧ (∃ c : Array Value, c.size = 3 ∧ V.heap[g + 1]? = some (.cells c 72 (0, 0))) ∧ Below g W0 V) → Hid (W.cell? ⟨q0, 0, none⟩ = some (.func (.func f0) #[] #[]) ∧ W.cell? ⟨q1, 0, none⟩ = some (.func (.func f1) #[] #[]) ∧ W.cell? ⟨q2, 0, none⟩ = some (.func (.func f2) #[] #[]) ∧ W.heap[g]? = some (.cells #[.int .i64 x, .int .i64 y, .int .i64 z] 72 (0, 0)) ∧ (∃ c : Array Value, c.size = 3 ∧ W.heap[g + 1]? = some (.cells c 72 (0, 0))) ∧ Below g W0 W)) := fun V W bb h => by
    obtain ⟨a0, a1, a2, a3, ⟨c, hc, a4⟩, a5⟩ := h.out
    have b0 := World.block_lt_of_cell? V _ a0
    have b1 := World.block_lt_of_cell? V _ a1
    have b2 := World.block_lt_of_cell? V _ a2
    have b3 : g < V.heap.size := (Array.getElem?_eq_some_iff.1 a3).1
    have b4 : g + 1 < V.heap.size := (Array.getElem?_eq_some_iff.1 a4).1
    exact ⟨(bb.cell (p := ⟨q0, 0, none⟩) b0).trans a0, (bb.cell (p := ⟨q1, 0, none⟩) b1).trans a1, (bb.cell (p := ⟨q2, 0, none⟩) b2).trans a2, (bb.block g b3).trans a3, ⟨c, hc, (bb.block (g + 1) b4).trans a4⟩, a5.trans (bb.mono (by omega))⟩
  have f0' := (B2.cell (p := ⟨q0, 0, none⟩) (by simp only; omega)).trans h0
  have f1' := (B2.cell (p := ⟨q1, 0, none⟩) (by simp only; omega)).trans h1
  have f2' := (B2.cell (p := ⟨q2, 0, none⟩) (by simp only; omega)).trans h2
  have Xw3 : Hid (w2.drew.cell? ⟨q0, 0, none⟩ = some (.func (.func f0) #[] #[]) ∧ w2.drew.cell? ⟨q1, 0, none⟩ = some (.func (.func f1) #[] #[]) ∧ w2.drew.cell? ⟨q2, 0, none⟩ = some (.func (.func f2) #[] #[]) ∧ w2.drew.heap[g]? = some (.cells #[.int .i64 x, .int .i64 y, .int .i64 z] 72 (0, 0)) ∧ (∃ c : Array Value, c.size = 3 ∧ w2.drew.heap[g + 1]? = some (.cells c 72 (0, 0))) ∧ Below g W0 w2.drew) := ⟨f0', f1', f2', T2, ⟨_, rfl, Q2⟩, B2.drew⟩
  have HG := Lib.hid hg
  have Xw3 := Lib.hid Xw3
  clear h0 h1 h2 B1 T1 B2 T2 Q2 f0' f1' f2' hf0 hf1 hf2 hr0 hr1 hr2
  go_enter Try.func68, Try.ntmps68
  go_wp2
  refine wp_region_held_drew (S := fun W => W.cell? ⟨q0, 0, none⟩ = some (.func (.func f0) #[] #[]) ∧ W.cell? ⟨q1, 0, none⟩ = some (.func (.func f1) #[] #[]) ∧ W.cell? ⟨q2, 0, none⟩ = some (.func (.func f2) #[] #[]) ∧ W.cell? ⟨g, 0, none⟩ = some (.int .i64 x) ∧ W.cell? ⟨g, 1, none⟩ = some (.int .i64 y) ∧ W.cell? ⟨g, 2, none⟩ = some (.int .i64 z) ∧ Hid (W.cell? ⟨q0, 0, none⟩ = some (.func (.func f0) #[] #[]) ∧ W.cell? ⟨q1, 0, none⟩ = some (.func (.func f1) #[] #[]) ∧ W.cell? ⟨q2, 0, none⟩ = some (.func (.func f2) #[] #[]) ∧ W.heap[g]? = some (.cells #[.int .i64 x, .int .i64 y, .int .i64 z] 72 (0, 0)) ∧ (∃ c : Array Value, c.size = 3 ∧ W.heap[g + 1]? = some (.cells c 72 (0, 0))) ∧ Below g W0 W)) (by kernel_rfl) (KEY.out _ Xw3.out) (fun hHeld => ?_)
  refine wpAnyH_take (i := 0) (oi := { dst := some 6, op := Op.load 69 (Operand.tmp 1), type := 69, pos := "l06_squares.go:144", after := #[], guard := none }) (v := ?_) rfl (by kernel_rfl) (by kernel_rfl) (by kernel_rfl) (fun _ _ _ h => h) (Or.inl ⟨by rfl, ?_⟩) (by assumption) ?_
  rotate_left
  · intro w hSw; (try dsimp only at hSw); go_simp
    try with_reducible rfl
  simp only [Act.put, List.setIfInBounds_toArray, List.set_cons_zero, List.set_cons_succ]
  refine wpAnyH_take (i := 1) (oi := { dst := some 7, op := Op.load 72 (Operand.tmp 4), type := 72, pos := "l06_squares.go:144", after := #[], guard := none }) (v := ?_) rfl (by kernel_rfl) (by kernel_rfl) (by kernel_rfl) (fun _ _ _ h => h) (Or.inl ⟨by rfl, ?_⟩) (by assumption) ?_
  rotate_left
  · intro w hSw; (try dsimp only at hSw); go_simp
    try with_reducible rfl
  simp only [Act.put, List.setIfInBounds_toArray, List.set_cons_zero, List.set_cons_succ]
  refine wpAnyH_take (i := 3) (oi := { dst := some 9, op := Op.load 69 (Operand.tmp 2), type := 69, pos := "l06_squares.go:144", after := #[], guard := none }) (v := ?_) rfl (by kernel_rfl) (by kernel_rfl) (by kernel_rfl) (fun _ _ _ h => h) (Or.inl ⟨by rfl, ?_⟩) (by assumption) ?_
  rotate_left
  · intro w hSw; (try dsimp only at hSw); go_simp
    try with_reducible rfl
  simp only [Act.put, List.setIfInBounds_toArray, List.set_cons_zero, List.set_cons_succ]
  refine wpAnyH_take (i := 4) (oi := { dst := some 10, op := Op.load 72 (Operand.tmp 4), type := 72, pos := "l06_squares.go:144", after := #[], guard := none }) (v := ?_) rfl (by kernel_rfl) (by kernel_rfl) (by kernel_rfl) (fun _ _ _ h => h) (Or.inl ⟨by rfl, ?_⟩) (by assumption) ?_
  rotate_left
  · intro w hSw; (try dsimp only at hSw); go_simp
    try with_reducible rfl
  simp only [Act.put, List.setIfInBounds_toArray, List.set_cons_zero, List.set_cons_succ]
  refine wpAnyH_take (i := 6) (oi := { dst := some 12, op := Op.load 69 (Operand.tmp 3), type := 69, pos := "l06_squares.go:144", after := #[], guard := none }) (v := ?_) rfl (by kernel_rfl) (by kernel_rfl) (by kernel_rfl) (fun _ _ _ h => h) (Or.inl ⟨by rfl, ?_⟩) (by assumption) ?_
  rotate_left
  · intro w hSw; (try dsimp only at hSw); go_simp
    try with_reducible rfl
  simp only [Act.put, List.setIfInBounds_toArray, List.set_cons_zero, List.set_cons_succ]
  refine wpAnyH_take (i := 7) (oi := { dst := some 13, op := Op.load 72 (Operand.tmp 4), type := 72, pos := "l06_squares.go:144", after := #[], guard := none }) (v := ?_) rfl (by kernel_rfl) (by kernel_rfl) (by kernel_rfl) (fun _ _ _ h => h) (Or.inl ⟨by rfl, ?_⟩) (by assumption) ?_
  rotate_left
  · intro w hSw; (try dsimp only at hSw); go_simp
    try with_reducible rfl
  simp only [Act.put, List.setIfInBounds_toArray, List.set_cons_zero, List.set_cons_succ]
  refine wpAnyH_ready (rs := [2]) (by kernel_rfl) (by simp) ?_
  refine AllReadyH.cons rfl (fun K hK => ?_) AllReadyH.nil
  go_simp
  go_wp2_with fail
  refine (C0.out _).mono ?_
  rintro e w4 ⟨rfl, bb⟩
  have Xw4 := Lib.hid (NX.out _ _ bb Xw3)
  clear bb
  refine hK.out _ _ (KEY.out _ Xw4.out) (fun hHeld => ?_)
  clear hK K
  refine wpAnyH_ready (rs := [5]) (by kernel_rfl) (by simp) ?_
  refine AllReadyH.cons rfl (fun K hK => ?_) AllReadyH.nil
  go_simp
  go_wp2_with fail
  refine (C1.out _).mono ?_
  rintro e w5 ⟨rfl, bb⟩
  have Xw5 := Lib.hid (NX.out _ _ bb Xw4)
  clear bb
  refine hK.out _ _ (KEY.out _ Xw5.out) (fun hHeld => ?_)
  clear hK K
  refine wpAnyH_ready (rs := [8]) (by kernel_rfl) (by simp) ?_
  refine AllReadyH.cons rfl (fun K hK => ?_) AllReadyH.nil
  go_simp
  go_wp2_with fail
  refine (C2.out _).mono ?_
  rintro e w6 ⟨rfl, bb⟩
  have Xw6 := Lib.hid (NX.out _ _ bb Xw5)
  clear bb
  refine hK.out _ _ (KEY.out _ Xw6.out) (fun hHeld => ?_)
  clear hK K
  refine wpAnyH_take (i := 9) (oi := { dst := some 15, op := Op.build 72 #[(0, Operand.tmp 8), (1, Operand.tmp 11), (2, Operand.tmp 14)], type := 72, pos := "l06_squares.go:144", after := #[{ on := 2, ground := Ground.data }, { on := 5, ground := Ground.data }, { on := 8, ground := Ground.data }], guard := none }) (v := ?_) rfl (by kernel_rfl) (by kernel_rfl) (by kernel_rfl) (fun _ _ _ h => h) (Or.inl ⟨by rfl, ?_⟩) (by assumption) ?_
  rotate_left
  · intro w hSw; (try dsimp only at hSw); go_simp
    try with_reducible rfl
  simp only [Act.put, List.setIfInBounds_toArray, List.set_cons_zero, List.set_cons_succ]
  obtain ⟨c, hc, Q6⟩ := Xw6.out.out.2.2.2.2.1
  refine wpAnyH_ready (rs := [10]) (by kernel_rfl) (by simp) ?_
  refine AllReadyH.cons rfl (fun K hK => ?_) AllReadyH.nil
  rw [if_pos (by rfl)]
  refine wp_store_row 72 (.tmp 5) (.tmp 15) rfl (g + 1) #[.int .i64 r0, .int .i64 r1, .int .i64 r2] rfl rfl _ _ Q6 (by kernel_rfl) (by rw [hc]; rfl) (by simp [Value.oneCell']) ?_
  simp only [Act.put]
  have P7 : Hid ((w6.setRow (g + 1) #[.int .i64 r0, .int .i64 r1, .int .i64 r2]).heap[g + 1]? = some (.cells #[.int .i64 r0, .int .i64 r1, .int .i64 r2] 72 (0, 0))) := setRow_heap _ _ _ _ _ _ Q6
  have hO := fun k (hk : k ≠ g + 1) => setRow_other w6 (g + 1) k #[.int .i64 r0, .int .i64 r1, .int .i64 r2] hk
  have hCl := fun (a : Addr) (hk : a.block ≠ g + 1) => cell_setRow_other w6 (g + 1) #[.int .i64 r0, .int .i64 r1, .int .i64 r2] a hk
  have X7 : Hid ((w6.setRow (g + 1) #[.int .i64 r0, .int .i64 r1, .int .i64 r2]).cell? ⟨q0, 0, none⟩ = some (.func (.func f0) #[] #[]) ∧ (w6.setRow (g + 1) #[.int .i64 r0, .int .i64 r1, .int .i64 r2]).cell? ⟨q1, 0, none⟩ = some (.func (.func f1) #[] #[]) ∧ (w6.setRow (g + 1) #[.int .i64 r0, .int .i64 r1, .int .i64 r2]).cell? ⟨q2, 0, none⟩ = some (.func (.func f2) #[] #[]) ∧ (w6.setRow (g + 1) #[.int .i64 r0, .int .i64 r1, .int .i64 r2]).heap[g]? = some (.cells #[.int .i64 x, .int .i64 y, .int .i64 z] 72 (0, 0)) ∧ (∃ c : Array Value, c.size = 3 ∧ (w6.setRow (g + 1) #[.int .i64 r0, .int .i64 r1, .int .i64 r2]).heap[g + 1]? = some (.cells c 72 (0, 0))) ∧ Below g W0 (w6.setRow (g + 1) #[.int .i64 r0, .int .i64 r1, .int .i64 r2])) := by
    obtain ⟨a0, a1, a2, a3, -, a5⟩ := Xw6.out.out
    exact ⟨(hCl ⟨q0, 0, none⟩ (by simp only; omega)).trans a0, (hCl ⟨q1, 0, none⟩ (by simp only; omega)).trans a1, (hCl ⟨q2, 0, none⟩ (by simp only; omega)).trans a2, (hO g (by omega)).trans a3, ⟨_, rfl, P7.out⟩, below_row a5 (by omega) _⟩
  refine hK.out _ _ (KEY.out _ X7) (fun hHeld => ?_)
  clear hK K
  refine wpAnyH_done (by kernel_rfl) ?_ _
  go_wp2
  refine bodyPost_ret (v := .agg #[.int .i64 r0, .int .i64 r1, .int .i64 r2]) (results_cell_row Try.results68 _ _ _ _ _ _ _ rfl P7.out Try.underlying72 rfl (by kernel_rfl)) rfl ⟨rfl, by rw [HG.out]; exact X7.out.2.2.2.2.2⟩
end Go.Proofs.Ytkonddifmonkcaa
