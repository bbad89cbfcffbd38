/- Structures of a number and rows: opening an argument, and the law's helpers on them. (By the name of the type: Design; others by replacing the word.) -/
import Derived.Test.YtdhlnagkhkcoiaaDoorRowk
import Derived.Test.YtdhlnagkhkcoiaaDoorRowc
import Derived.Test.YtdhlnagkhkcoiaaDoorRowo
import Derived.ChangeSame
import Derived.WideShapes
namespace Go.Proofs.YtdhlnagkhkcoiaaDoor
open Go.RowKit
set_option linter.unusedVariables false

set_option maxRecDepth 100000 in
theorem Tryd.openDesign {H : Type} {enc : TypeId × Value → H} {W : World} {cs : Array Value} {d : DataW H} {ps : List MemPlace} (hs : cs.size = Tryd.prog.cellsOf 24)
    (h : DataW.Trod enc Tryd.prog W 0 (fun _ => true) true 24 (.agg cs) d ps) : ∃ n u xss, cs = #[.int .i64 n, u] ∧ (Lit.int .i64 n).wf = true ∧ RowsAt W u xss ∧ ∀ r ∈ xss, ∀ z ∈ r, I64 z := by
  have e2 : Tryd.prog.cellsOf 24 = 2 := by kernel_rfl
  have e1 : Tryd.prog.cellsOf 2 = 1 := by kernel_rfl
  have es : Tryd.prog.cellsOf 22 = 1 := by kernel_rfl
  obtain ⟨fuel, hf⟩ := h
  obtain ⟨y0, y1, n, -, -, t0, t1⟩ := Go.ChangeShapes.trod_struct2 Tryd.underlying24 hf
  rw [e2] at hs
  obtain ⟨x0, x1, rfl⟩ : ∃ x0 x1, cs = #[x0, x1] := by
    match cs, hs with
    | ⟨[x0, x1]⟩, _ => exact ⟨x0, x1, rfl⟩
  simp only [Value.cells, e1, es] at t0 t1
  obtain ⟨P, q0, -, wf⟩ := DataW.trod_int Tryd.underlying2 t0
  simp at q0
  subst q0
  have sh : ∃ a l c, x1 = .slice a l c := by
    rcases Go.Deep.open_int_rows Tryd.underlying22 Tryd.underlying60 Tryd.underlying2 (by kernel_rfl) (by kernel_rfl) t1 with ⟨hcs, _⟩ | ⟨a, len, cap, A, L, C, Z, hcs, _⟩
    · simp at hcs; exact ⟨_, _, _, hcs⟩
    · simp at hcs; exact ⟨_, _, _, hcs⟩
  obtain ⟨xss, r1, r2⟩ := rows_open sh (by obtain ⟨a, l, c, rfl⟩ := sh; simpa [Value.cells] using t1)
  exact ⟨P, x1, xss, rfl, wf, r1, r2⟩

theorem RowsL.far {w : World} {B L : Nat} {v : Value} {xss : List (List Int)} (h : RowsL w B L v xss) (p : Addr) (u : Value) (hp : p.block < B) : RowsL (w.setCell p u) B L v xss := by
  obtain ⟨us, e, ho, h1, h2, hr, hd⟩ := h
  refine ⟨us, e, ownsRow_of_block ho (fun k ek => Below.heap_setCell w p u k (by have := (World.ownsRow.lt ho k ek).1; omega)), h1, by simpa [World.setCell] using h2, fun j hj => ?_, hd⟩
  exact ⟨ownsRow_of_block (hr j hj).1 (fun k ek => Below.heap_setCell w p u k (by have := (World.ownsRow.lt (hr j hj).1 k ek).1; omega)), (hr j hj).2.1, by simpa [World.setCell] using h2⟩
/-- A structure that a call boxes. -/
theorem box2 (w : World) (n : Int) (v : Value) (T : TypeId) : Below w.heap.size w (w.alloc (.cells #[.int .i64 n, v] T)) := (Below.refl _ _).alloc (Nat.le_refl _) _

set_option maxHeartbeats 1000000 in
theorem sz_Design (w : World) (n : Int) (v : Value) (xss : List (List Int)) (q : Int) (hv : RowsAt w v xss) (q0 : 0 ≤ q) (q1 : q ≤ 1048576) :
    Calls Tryd.prog 8 #[.agg #[.int .i64 n, v], .int .i64 q] w fun e w' => ∃ r : Int, e = .returned (.int .i64 r) ∧ (0 ≤ r → ((xss.length + tot xss : Nat) : Int) ≤ q ∧ r ≤ q) ∧ Below w.heap.size w w' := by
  have B := Lib.hid (box2 w n v 24)
  have HZ := Lib.hid (sz_rows _ v xss q (hv.below (box2 w n v 24) (Nat.le_refl _)) q0 q1)
  obtain ⟨a, cap, rfl, -⟩ := hv.shape
  clear hv
  go_enter Tryd.func8, Tryd.ntmps8
  go_wp2_with fail
  refine HZ.out.mono ?_
  rintro e w1 ⟨r, rfl, hr, d, rfl⟩
  have HR := Lib.hid hr
  clear hr
  by_cases c : r < 0
  · have t : decide (r < 0) = true := decide_eq_true c
    go_wp2
    go_ret
    exact ⟨-1, rfl, fun h => by omega, below_drewN B.out _⟩
  · have t : decide (r < 0) = false := decide_eq_false c
    go_wp2
    go_ret
    exact ⟨r, rfl, HR.out, below_drewN B.out _⟩

set_option maxHeartbeats 2000000 in
theorem copy_Design (w : World) (n : Int) (v : Value) (xss : List (List Int)) (hv : RowsAt w v xss) (hx : xss.length + tot xss ≤ 1048576) :
    Calls Tryd.prog 10 #[.agg #[.int .i64 n, v]] w fun e w' => ∃ v', e = .returned (.agg #[.int .i64 n, v']) ∧ RowsL w' w.heap.size w'.heap.size v' xss ∧ Below w.heap.size w w' := by
  obtain ⟨a, cap, rfl, -⟩ := hv.shape
  obtain ⟨v, hvv⟩ : ∃ v, Value.slice a xss.length cap = v := ⟨_, rfl⟩
  rw [hvv] at hv
  obtain ⟨b, hb⟩ : ∃ b, w.heap.size = b := ⟨_, rfl⟩
  have z1 : (w.alloc (.cells #[.int .i64 n, v] 24)).heap.size = b + 1 := by rw [World.size_alloc, hb]
  have b1 : Below b w (w.alloc (.cells #[.int .i64 n, v] 24)) := (Below.refl _ _).alloc (by omega) _
  have A1 : (w.alloc (.cells #[.int .i64 n, v] 24)).heap[b]? = some (.cells #[.int .i64 n, v] 24 (0, 0)) := by rw [← hb]; exact heap_alloc_new _ _
  obtain ⟨w1, hw1⟩ : ∃ w1, w.alloc (.cells #[.int .i64 n, v] 24) = w1 := ⟨_, rfl⟩
  rw [hw1] at z1 b1 A1
  have z2 : (w1.alloc (.cells #[.int .i64 0, .slice none 0 0] 27)).heap.size = b + 2 := by rw [World.size_alloc, z1]
  have b2 : Below b w (w1.alloc (.cells #[.int .i64 0, .slice none 0 0] 27)) := b1.alloc (by omega) _
  have A2 : (w1.alloc (.cells #[.int .i64 0, .slice none 0 0] 27)).heap[b]? = some (.cells #[.int .i64 n, v] 24 (0, 0)) := (heap_alloc_old _ _ (by omega)).trans A1
  have R2 : (w1.alloc (.cells #[.int .i64 0, .slice none 0 0] 27)).heap[b + 1]? = some (.cells #[.int .i64 0, .slice none 0 0] 27 (0, 0)) := by rw [← z1]; exact heap_alloc_new _ _
  obtain ⟨w2, hw2⟩ : ∃ w2, w1.alloc (.cells #[.int .i64 0, .slice none 0 0] 27) = w2 := ⟨_, rfl⟩
  rw [hw2] at z2 b2 A2 R2
  have z3 : (w2.alloc (.cells #[.int .i64 0, .slice none 0 0] 27)).heap.size = b + 3 := by rw [World.size_alloc, z2]
  have b3 : Below b w (w2.alloc (.cells #[.int .i64 0, .slice none 0 0] 27)) := b2.alloc (by omega) _
  have A3 : (w2.alloc (.cells #[.int .i64 0, .slice none 0 0] 27)).heap[b]? = some (.cells #[.int .i64 n, v] 24 (0, 0)) := (heap_alloc_old _ _ (by omega)).trans A2
  have R3 : (w2.alloc (.cells #[.int .i64 0, .slice none 0 0] 27)).heap[b + 1]? = some (.cells #[.int .i64 0, .slice none 0 0] 27 (0, 0)) := (heap_alloc_old _ _ (by omega)).trans R2
  have Q3 : (w2.alloc (.cells #[.int .i64 0, .slice none 0 0] 27)).heap[b + 2]? = some (.cells #[.int .i64 0, .slice none 0 0] 27 (0, 0)) := by rw [← z2]; exact heap_alloc_new _ _
  obtain ⟨w3, hw3⟩ : ∃ w3, w2.alloc (.cells #[.int .i64 0, .slice none 0 0] 27) = w3 := ⟨_, rfl⟩
  rw [hw3] at z3 b3 A3 R3 Q3
  have c0 : w3.cell? ⟨b, 0, none⟩ = some (.int .i64 n) := by rw [cell_of_row w3 b 0 _ _ _ A3]; rfl
  have d0 : w3.cell? ⟨b + 2, 0, none⟩ = some (.int .i64 0) := by rw [cell_of_row w3 (b + 2) 0 _ _ _ Q3]; rfl
  have f0 := frozen_of_row w3 (b + 2) 0 _ _ Q3
  have Q4 : (w3.setCell ⟨b + 2, 0, none⟩ (.int .i64 n)).heap[b + 2]? = some (.cells #[.int .i64 n, .slice none 0 0] 27 (0, 0)) := by rw [heap_setCell_same w3 (b + 2) 0 _ _ _ Q3]; rfl
  have A4 : (w3.setCell ⟨b + 2, 0, none⟩ (.int .i64 n)).heap[b]? = some (.cells #[.int .i64 n, v] 24 (0, 0)) := (Below.heap_setCell w3 ⟨b + 2, 0, none⟩ _ b (by simp only; omega)).trans A3
  have R4 : (w3.setCell ⟨b + 2, 0, none⟩ (.int .i64 n)).heap[b + 1]? = some (.cells #[.int .i64 0, .slice none 0 0] 27 (0, 0)) := (Below.heap_setCell w3 ⟨b + 2, 0, none⟩ _ (b + 1) (by simp only; omega)).trans R3
  have b4 : Below b w (w3.setCell ⟨b + 2, 0, none⟩ (.int .i64 n)) := b3.setCell (p := ⟨b + 2, 0, none⟩) (by simp only; omega) _
  have z4 : (w3.setCell ⟨b + 2, 0, none⟩ (.int .i64 n)).heap.size = b + 3 := by simpa [World.setCell] using z3
  obtain ⟨w4, hw4⟩ : ∃ w4, w3.setCell ⟨b + 2, 0, none⟩ (.int .i64 n) = w4 := ⟨_, rfl⟩
  rw [hw4] at z4 b4 A4 R4 Q4
  have c1 : w4.cell? ⟨b, 1, none⟩ = some v := by rw [cell_of_row w4 b 1 _ _ _ A4]; rfl
  have HC := Lib.hid (copy_rows w4 v xss (hv.below b4 (by omega)) hx)
  have RR := Lib.hid R4
  have QQ := Lib.hid Q4
  have BB := Lib.hid b4
  have zz := Lib.hid z4
  have HB := Lib.hid hb
  clear hv A1 b1 A2 b2 R2 A3 b3 R3 Q3 A4 R4 Q4 b4 z4 hx
  subst hvv
  go_enter Tryd.func10, Tryd.ntmps10
  go_wp2_with fail
  refine HC.out.mono ?_
  rintro e w5 ⟨u, rfl, r5, b5⟩
  obtain ⟨ua, uk, rfl, -⟩ := r5.at.shape
  rw [zz.out] at r5 b5
  have Q5 : w5.heap[b + 2]? = some (.cells #[.int .i64 n, .slice none 0 0] 27 (0, 0)) := (b5.block (b + 2) (by omega)).trans QQ.out
  have R5 : w5.heap[b + 1]? = some (.cells #[.int .i64 0, .slice none 0 0] 27 (0, 0)) := (b5.block (b + 1) (by omega)).trans RR.out
  have B5 : Below b w w5 := BB.out.trans (b5.mono (by omega))
  have d1 : w5.cell? ⟨b + 2, 1, none⟩ = some (.slice none 0 0) := by rw [cell_of_row w5 (b + 2) 1 _ _ _ Q5]; rfl
  have f1 := frozen_of_row w5 (b + 2) 1 _ _ Q5
  have Q6 : (w5.setCell ⟨b + 2, 1, none⟩ (.slice ua xss.length uk)).heap[b + 2]? = some (.cells #[.int .i64 n, .slice ua xss.length uk] 27 (0, 0)) := by rw [heap_setCell_same w5 (b + 2) 1 _ _ _ Q5]; rfl
  have R6 : (w5.setCell ⟨b + 2, 1, none⟩ (.slice ua xss.length uk)).heap[b + 1]? = some (.cells #[.int .i64 0, .slice none 0 0] 27 (0, 0)) := (Below.heap_setCell w5 ⟨b + 2, 1, none⟩ _ (b + 1) (by simp only; omega)).trans R5
  have B6 : Below b w (w5.setCell ⟨b + 2, 1, none⟩ (.slice ua xss.length uk)) := B5.setCell (p := ⟨b + 2, 1, none⟩) (by simp only; omega) _
  have L6 : RowsL (w5.setCell ⟨b + 2, 1, none⟩ (.slice ua xss.length uk)) (b + 3) w5.heap.size (.slice ua xss.length uk) xss := r5.far ⟨b + 2, 1, none⟩ _ (by simp only; omega)
  have z6 : (w5.setCell ⟨b + 2, 1, none⟩ (.slice ua xss.length uk)).heap.size = w5.heap.size := by simp [World.setCell]
  obtain ⟨w6, hw6⟩ : ∃ w6, w5.setCell ⟨b + 2, 1, none⟩ (.slice ua xss.length uk) = w6 := ⟨_, rfl⟩
  rw [hw6] at Q6 R6 B6 L6 z6
  have e0 : w6.cell? ⟨b + 2, 0, none⟩ = some (.int .i64 n) := by rw [cell_of_row w6 (b + 2) 0 _ _ _ Q6]; rfl
  have e1 : w6.cell? ⟨b + 2, 1, none⟩ = some (.slice ua xss.length uk) := by rw [cell_of_row w6 (b + 2) 1 _ _ _ Q6]; rfl
  have e2 : w6.cell? ⟨b + 1, 0, none⟩ = some (.int .i64 0) := by rw [cell_of_row w6 (b + 1) 0 _ _ _ R6]; rfl
  have g0 := frozen_of_row w6 (b + 1) 0 _ _ R6
  have R7 : (w6.setCell ⟨b + 1, 0, none⟩ (.int .i64 n)).heap[b + 1]? = some (.cells #[.int .i64 n, .slice none 0 0] 27 (0, 0)) := by rw [heap_setCell_same w6 (b + 1) 0 _ _ _ R6]; rfl
  have B7 : Below b w (w6.setCell ⟨b + 1, 0, none⟩ (.int .i64 n)) := B6.setCell (p := ⟨b + 1, 0, none⟩) (by simp only; omega) _
  have L7 : RowsL (w6.setCell ⟨b + 1, 0, none⟩ (.int .i64 n)) (b + 3) w5.heap.size (.slice ua xss.length uk) xss := L6.far ⟨b + 1, 0, none⟩ _ (by simp only; omega)
  have z7 : (w6.setCell ⟨b + 1, 0, none⟩ (.int .i64 n)).heap.size = w5.heap.size := by simpa [World.setCell] using z6
  obtain ⟨w7, hw7⟩ : ∃ w7, w6.setCell ⟨b + 1, 0, none⟩ (.int .i64 n) = w7 := ⟨_, rfl⟩
  rw [hw7] at R7 B7 L7 z7
  have e3 : w7.cell? ⟨b + 1, 1, none⟩ = some (.slice none 0 0) := by rw [cell_of_row w7 (b + 1) 1 _ _ _ R7]; rfl
  have g1 := frozen_of_row w7 (b + 1) 1 _ _ R7
  have R8 : Hid ((w7.setCell ⟨b + 1, 1, none⟩ (.slice ua xss.length uk)).heap[b + 1]? = some (.cells #[.int .i64 n, .slice ua xss.length uk] 27 (0, 0))) := by unfold Hid; rw [heap_setCell_same w7 (b + 1) 1 _ _ _ R7]; rfl
  have B8 : Hid (Below b w (w7.setCell ⟨b + 1, 1, none⟩ (.slice ua xss.length uk))) := B7.setCell (p := ⟨b + 1, 1, none⟩) (by simp only; omega) _
  have z8 : (w7.setCell ⟨b + 1, 1, none⟩ (.slice ua xss.length uk)).heap.size = w5.heap.size := by simpa [World.setCell] using z7
  have L8 := L7.far ⟨b + 1, 1, none⟩ (.slice ua xss.length uk) (by simp only; omega)
  have L9 : Hid (RowsL (w7.setCell ⟨b + 1, 1, none⟩ (.slice ua xss.length uk)) b (w7.setCell ⟨b + 1, 1, none⟩ (.slice ua xss.length uk)).heap.size (.slice ua xss.length uk) xss) := L8.mono (by omega) (by omega) (Nat.le_refl _)
  obtain ⟨w8, hw8⟩ : ∃ w8, w7.setCell ⟨b + 1, 1, none⟩ (.slice ua xss.length uk) = w8 := ⟨_, rfl⟩
  rw [hw8] at R8 B8 L9
  clear Q5 R5 B5 Q6 R6 B6 L6 z6 R7 B7 L7 z7 L8 z8 r5 b5
  go_wp2
  refine bodyPost_ret (v := .agg #[.int .i64 n, .slice ua xss.length uk]) (results_cell_row Tryd.results10 _ _ _ _ _ _ _ rfl R8.out Tryd.underlying27 rfl (by kernel_rfl)) rfl ⟨_, rfl, by rw [HB.out]; exact L9.out, by rw [HB.out]; exact B8.out⟩

set_option maxHeartbeats 1000000 in
theorem eq_Design (w : World) (n : Int) (u v : Value) (xss : List (List Int)) (hu : RowsAt w u xss) (hv : RowsAt w v xss) :
    Calls Tryd.prog 12 #[.agg #[.int .i64 n, u], .agg #[.int .i64 n, v]] w fun e w' => e = .returned (.bool true) ∧ Below w.heap.size w w' := by
  have b2 : Below w.heap.size w ((w.alloc (.cells #[.int .i64 n, u] 27)).alloc (.cells #[.int .i64 n, v] 27)) := (box2 w n u 27).alloc (by rw [World.size_alloc]; omega) _
  have HE := Lib.hid (eq_rows _ u v xss (hu.below b2 (Nat.le_refl _)) (hv.below b2 (Nat.le_refl _)))
  obtain ⟨a, cap, rfl, -⟩ := hu.shape
  obtain ⟨a', cap', rfl, -⟩ := hv.shape
  have B2 := Lib.hid b2
  have t : (n != n) = false := by simp
  clear hu hv b2
  go_enter Tryd.func12, Tryd.ntmps12
  go_wp2_with fail
  refine HE.out.mono ?_
  rintro e w1 ⟨rfl, d, rfl⟩
  go_wp2
  go_ret
  exact ⟨rfl, below_drewN B2.out _⟩
end Go.Proofs.YtdhlnagkhkcoiaaDoor
