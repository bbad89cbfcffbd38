/- The program's Fenwick tree of twelve numbers. -/
import Derived.Test.YtkonddifmonkcaaIa
import Derived.Test.YtkonddifmonkcaaIv
import Derived.Deep.WholeRow
import Derived.Deep.RegionHeld3
import Derived.BigRegion
import Derived.Deep.Cut
namespace Go.Proofs.Ytkonddifmonkcaa
open Go.RowKit
set_option linter.unusedVariables false

/-- The sums that the tree holds. -/
def fw (u : Nat → Int) : Nat → Int
  | 1 => u 0
  | 2 => u 0 + u 1
  | 3 => u 2
  | 4 => u 0 + u 1 + u 2 + u 3
  | 5 => u 4
  | 6 => u 4 + u 5
  | 7 => u 6
  | 8 => u 0 + u 1 + u 2 + u 3 + u 4 + u 5 + u 6 + u 7
  | 9 => u 8
  | 10 => u 8 + u 9
  | 11 => u 10
  | 12 => u 8 + u 9 + u 10 + u 11
  | _ => 0
def sumU (u : Nat → Int) : Nat → Int
  | 0 => 0
  | x + 1 => sumU u x + u x
def Fn (w : World) (g : Nat) (u : Nat → Int) : Prop := Ia w 89 g 13 (fw u)
def Bit (u : Nat → Int) : Prop := ∀ y, -1 ≤ u y ∧ u y ≤ 1

theorem Ia.drew {w : World} {T : TypeId} {g q : Nat} {c : Nat → Int} (h : Ia w T g q c) : Ia w.drew T g q c := h
set_option maxHeartbeats 4000000 in
theorem change0 (w : World) (g : Nat) (u : Nat → Int) (d : Int) (hd : -1 ≤ d ∧ d ≤ 1) (hu : Bit u) (h : Fn w g u) :
    Calls Try.prog 82 #[.pointer (some ⟨g, 0, none⟩), .int .i64 0, .int .i64 d] w fun e w' => (∃ v, e = .returned v) ∧ Fn w' g (updI u 0 (u 0 + d)) ∧ Below g w w' := by
  have c1 := h.cell 1 (by omega)
  have f1 := h.frozen 1
  have e1 : bits BinOp.and IntKind.i64 1 (-1) = 1 := by decide
  have n1 : wrap64 (1 + 1) = 2 := by unfold wrap64; omega
  have a1 : wrap64 (fw u 1 + d) = fw u 1 + d := by
    have := hu 0
    have := hu 1
    have := hu 2
    have := hu 3
    have := hu 4
    have := hu 5
    have := hu 6
    have := hu 7
    have := hu 8
    have := hu 9
    have := hu 10
    have := hu 11
    simp only [fw]; unfold wrap64; omega
  have c2 := h.cell 2 (by omega)
  have f2 := h.frozen 2
  have e2 : bits BinOp.and IntKind.i64 2 (-2) = 2 := by decide
  have n2 : wrap64 (2 + 2) = 4 := by unfold wrap64; omega
  have a2 : wrap64 (fw u 2 + d) = fw u 2 + d := by
    have := hu 0
    have := hu 1
    have := hu 2
    have := hu 3
    have := hu 4
    have := hu 5
    have := hu 6
    have := hu 7
    have := hu 8
    have := hu 9
    have := hu 10
    have := hu 11
    simp only [fw]; unfold wrap64; omega
  have c4 := h.cell 4 (by omega)
  have f4 := h.frozen 4
  have e4 : bits BinOp.and IntKind.i64 4 (-4) = 4 := by decide
  have n4 : wrap64 (4 + 4) = 8 := by unfold wrap64; omega
  have a4 : wrap64 (fw u 4 + d) = fw u 4 + d := by
    have := hu 0
    have := hu 1
    have := hu 2
    have := hu 3
    have := hu 4
    have := hu 5
    have := hu 6
    have := hu 7
    have := hu 8
    have := hu 9
    have := hu 10
    have := hu 11
    simp only [fw]; unfold wrap64; omega
  have c8 := h.cell 8 (by omega)
  have f8 := h.frozen 8
  have e8 : bits BinOp.and IntKind.i64 8 (-8) = 8 := by decide
  have n8 : wrap64 (8 + 8) = 16 := by unfold wrap64; omega
  have a8 : wrap64 (fw u 8 + d) = fw u 8 + d := by
    have := hu 0
    have := hu 1
    have := hu 2
    have := hu 3
    have := hu 4
    have := hu 5
    have := hu 6
    have := hu 7
    have := hu 8
    have := hu 9
    have := hu 10
    have := hu 11
    simp only [fw]; unfold wrap64; omega
  have S := Lib.hid (((((h.set 1 (fw u 1 + d)).drew.set 2 (fw u 2 + d)).drew.set 4 (fw u 4 + d)).drew.set 8 (fw u 8 + d)).drew)
  have B := Lib.hid (((((((((Below.refl g w).setCell (p := ⟨g, 1, none⟩) (Nat.le_refl _) (.int .i64 (fw u 1 + d))).drew).setCell (p := ⟨g, 2, none⟩) (Nat.le_refl _) (.int .i64 (fw u 2 + d))).drew).setCell (p := ⟨g, 4, none⟩) (Nat.le_refl _) (.int .i64 (fw u 4 + d))).drew).setCell (p := ⟨g, 8, none⟩) (Nat.le_refl _) (.int .i64 (fw u 8 + d))).drew)
  clear h hu
  go_enter Try.func82, Try.ntmps82
  go_wp2
  refine wp_loop_rounds 5 ?_
  rw [rounds_succ]
  go_wp2
  go_region
  go_wp2
  rw [rounds_succ]
  go_wp2
  go_region
  go_wp2
  rw [rounds_succ]
  go_wp2
  go_region
  go_wp2
  rw [rounds_succ]
  go_wp2
  go_region
  go_wp2
  rw [rounds_succ]
  go_wp2
  go_end0
  refine ⟨⟨_, rfl⟩, S.out.congr (fun i hi => ?_), B.out⟩
  rcases (by omega : i = 0 ∨ i = 1 ∨ i = 2 ∨ i = 3 ∨ i = 4 ∨ i = 5 ∨ i = 6 ∨ i = 7 ∨ i = 8 ∨ i = 9 ∨ i = 10 ∨ i = 11 ∨ i = 12) with rfl | rfl | rfl | rfl | rfl | rfl | rfl | rfl | rfl | rfl | rfl | rfl | rfl <;> simp [updI, fw] <;> omega
set_option maxHeartbeats 4000000 in
theorem change1 (w : World) (g : Nat) (u : Nat → Int) (d : Int) (hd : -1 ≤ d ∧ d ≤ 1) (hu : Bit u) (h : Fn w g u) :
    Calls Try.prog 82 #[.pointer (some ⟨g, 0, none⟩), .int .i64 1, .int .i64 d] w fun e w' => (∃ v, e = .returned v) ∧ Fn w' g (updI u 1 (u 1 + d)) ∧ Below g w w' := by
  have c2 := h.cell 2 (by omega)
  have f2 := h.frozen 2
  have e2 : bits BinOp.and IntKind.i64 2 (-2) = 2 := by decide
  have n2 : wrap64 (2 + 2) = 4 := by unfold wrap64; omega
  have a2 : wrap64 (fw u 2 + d) = fw u 2 + d := by
    have := hu 0
    have := hu 1
    have := hu 2
    have := hu 3
    have := hu 4
    have := hu 5
    have := hu 6
    have := hu 7
    have := hu 8
    have := hu 9
    have := hu 10
    have := hu 11
    simp only [fw]; unfold wrap64; omega
  have c4 := h.cell 4 (by omega)
  have f4 := h.frozen 4
  have e4 : bits BinOp.and IntKind.i64 4 (-4) = 4 := by decide
  have n4 : wrap64 (4 + 4) = 8 := by unfold wrap64; omega
  have a4 : wrap64 (fw u 4 + d) = fw u 4 + d := by
    have := hu 0
    have := hu 1
    have := hu 2
    have := hu 3
    have := hu 4
    have := hu 5
    have := hu 6
    have := hu 7
    have := hu 8
    have := hu 9
    have := hu 10
    have := hu 11
    simp only [fw]; unfold wrap64; omega
  have c8 := h.cell 8 (by omega)
  have f8 := h.frozen 8
  have e8 : bits BinOp.and IntKind.i64 8 (-8) = 8 := by decide
  have n8 : wrap64 (8 + 8) = 16 := by unfold wrap64; omega
  have a8 : wrap64 (fw u 8 + d) = fw u 8 + d := by
    have := hu 0
    have := hu 1
    have := hu 2
    have := hu 3
    have := hu 4
    have := hu 5
    have := hu 6
    have := hu 7
    have := hu 8
    have := hu 9
    have := hu 10
    have := hu 11
    simp only [fw]; unfold wrap64; omega
  have S := Lib.hid ((((h.set 2 (fw u 2 + d)).drew.set 4 (fw u 4 + d)).drew.set 8 (fw u 8 + d)).drew)
  have B := Lib.hid (((((((Below.refl g w).setCell (p := ⟨g, 2, none⟩) (Nat.le_refl _) (.int .i64 (fw u 2 + d))).drew).setCell (p := ⟨g, 4, none⟩) (Nat.le_refl _) (.int .i64 (fw u 4 + d))).drew).setCell (p := ⟨g, 8, none⟩) (Nat.le_refl _) (.int .i64 (fw u 8 + d))).drew)
  clear h hu
  go_enter Try.func82, Try.ntmps82
  go_wp2
  refine wp_loop_rounds 4 ?_
  rw [rounds_succ]
  go_wp2
  go_region
  go_wp2
  rw [rounds_succ]
  go_wp2
  go_region
  go_wp2
  rw [rounds_succ]
  go_wp2
  go_region
  go_wp2
  rw [rounds_succ]
  go_wp2
  go_end0
  refine ⟨⟨_, rfl⟩, S.out.congr (fun i hi => ?_), B.out⟩
  rcases (by omega : i = 0 ∨ i = 1 ∨ i = 2 ∨ i = 3 ∨ i = 4 ∨ i = 5 ∨ i = 6 ∨ i = 7 ∨ i = 8 ∨ i = 9 ∨ i = 10 ∨ i = 11 ∨ i = 12) with rfl | rfl | rfl | rfl | rfl | rfl | rfl | rfl | rfl | rfl | rfl | rfl | rfl <;> simp [updI, fw] <;> omega
set_option maxHeartbeats 4000000 in
theorem change2 (w : World) (g : Nat) (u : Nat → Int) (d : Int) (hd : -1 ≤ d ∧ d ≤ 1) (hu : Bit u) (h : Fn w g u) :
    Calls Try.prog 82 #[.pointer (some ⟨g, 0, none⟩), .int .i64 2, .int .i64 d] w fun e w' => (∃ v, e = .returned v) ∧ Fn w' g (updI u 2 (u 2 + d)) ∧ Below g w w' := by
  have c3 := h.cell 3 (by omega)
  have f3 := h.frozen 3
  have e3 : bits BinOp.and IntKind.i64 3 (-3) = 1 := by decide
  have n3 : wrap64 (3 + 1) = 4 := by unfold wrap64; omega
  have a3 : wrap64 (fw u 3 + d) = fw u 3 + d := by
    have := hu 0
    have := hu 1
    have := hu 2
    have := hu 3
    have := hu 4
    have := hu 5
    have := hu 6
    have := hu 7
    have := hu 8
    have := hu 9
    have := hu 10
    have := hu 11
    simp only [fw]; unfold wrap64; omega
  have c4 := h.cell 4 (by omega)
  have f4 := h.frozen 4
  have e4 : bits BinOp.and IntKind.i64 4 (-4) = 4 := by decide
  have n4 : wrap64 (4 + 4) = 8 := by unfold wrap64; omega
  have a4 : wrap64 (fw u 4 + d) = fw u 4 + d := by
    have := hu 0
    have := hu 1
    have := hu 2
    have := hu 3
    have := hu 4
    have := hu 5
    have := hu 6
    have := hu 7
    have := hu 8
    have := hu 9
    have := hu 10
    have := hu 11
    simp only [fw]; unfold wrap64; omega
  have c8 := h.cell 8 (by omega)
  have f8 := h.frozen 8
  have e8 : bits BinOp.and IntKind.i64 8 (-8) = 8 := by decide
  have n8 : wrap64 (8 + 8) = 16 := by unfold wrap64; omega
  have a8 : wrap64 (fw u 8 + d) = fw u 8 + d := by
    have := hu 0
    have := hu 1
    have := hu 2
    have := hu 3
    have := hu 4
    have := hu 5
    have := hu 6
    have := hu 7
    have := hu 8
    have := hu 9
    have := hu 10
    have := hu 11
    simp only [fw]; unfold wrap64; omega
  have S := Lib.hid ((((h.set 3 (fw u 3 + d)).drew.set 4 (fw u 4 + d)).drew.set 8 (fw u 8 + d)).drew)
  have B := Lib.hid (((((((Below.refl g w).setCell (p := ⟨g, 3, none⟩) (Nat.le_refl _) (.int .i64 (fw u 3 + d))).drew).setCell (p := ⟨g, 4, none⟩) (Nat.le_refl _) (.int .i64 (fw u 4 + d))).drew).setCell (p := ⟨g, 8, none⟩) (Nat.le_refl _) (.int .i64 (fw u 8 + d))).drew)
  clear h hu
  go_enter Try.func82, Try.ntmps82
  go_wp2
  refine wp_loop_rounds 4 ?_
  rw [rounds_succ]
  go_wp2
  go_region
  go_wp2
  rw [rounds_succ]
  go_wp2
  go_region
  go_wp2
  rw [rounds_succ]
  go_wp2
  go_region
  go_wp2
  rw [rounds_succ]
  go_wp2
  go_end0
  refine ⟨⟨_, rfl⟩, S.out.congr (fun i hi => ?_), B.out⟩
  rcases (by omega : i = 0 ∨ i = 1 ∨ i = 2 ∨ i = 3 ∨ i = 4 ∨ i = 5 ∨ i = 6 ∨ i = 7 ∨ i = 8 ∨ i = 9 ∨ i = 10 ∨ i = 11 ∨ i = 12) with rfl | rfl | rfl | rfl | rfl | rfl | rfl | rfl | rfl | rfl | rfl | rfl | rfl <;> simp [updI, fw] <;> omega
set_option maxHeartbeats 4000000 in
theorem change3 (w : World) (g : Nat) (u : Nat → Int) (d : Int) (hd : -1 ≤ d ∧ d ≤ 1) (hu : Bit u) (h : Fn w g u) :
    Calls Try.prog 82 #[.pointer (some ⟨g, 0, none⟩), .int .i64 3, .int .i64 d] w fun e w' => (∃ v, e = .returned v) ∧ Fn w' g (updI u 3 (u 3 + d)) ∧ Below g w w' := by
  have c4 := h.cell 4 (by omega)
  have f4 := h.frozen 4
  have e4 : bits BinOp.and IntKind.i64 4 (-4) = 4 := by decide
  have n4 : wrap64 (4 + 4) = 8 := by unfold wrap64; omega
  have a4 : wrap64 (fw u 4 + d) = fw u 4 + d := by
    have := hu 0
    have := hu 1
    have := hu 2
    have := hu 3
    have := hu 4
    have := hu 5
    have := hu 6
    have := hu 7
    have := hu 8
    have := hu 9
    have := hu 10
    have := hu 11
    simp only [fw]; unfold wrap64; omega
  have c8 := h.cell 8 (by omega)
  have f8 := h.frozen 8
  have e8 : bits BinOp.and IntKind.i64 8 (-8) = 8 := by decide
  have n8 : wrap64 (8 + 8) = 16 := by unfold wrap64; omega
  have a8 : wrap64 (fw u 8 + d) = fw u 8 + d := by
    have := hu 0
    have := hu 1
    have := hu 2
    have := hu 3
    have := hu 4
    have := hu 5
    have := hu 6
    have := hu 7
    have := hu 8
    have := hu 9
    have := hu 10
    have := hu 11
    simp only [fw]; unfold wrap64; omega
  have S := Lib.hid (((h.set 4 (fw u 4 + d)).drew.set 8 (fw u 8 + d)).drew)
  have B := Lib.hid (((((Below.refl g w).setCell (p := ⟨g, 4, none⟩) (Nat.le_refl _) (.int .i64 (fw u 4 + d))).drew).setCell (p := ⟨g, 8, none⟩) (Nat.le_refl _) (.int .i64 (fw u 8 + d))).drew)
  clear h hu
  go_enter Try.func82, Try.ntmps82
  go_wp2
  refine wp_loop_rounds 3 ?_
  rw [rounds_succ]
  go_wp2
  go_region
  go_wp2
  rw [rounds_succ]
  go_wp2
  go_region
  go_wp2
  rw [rounds_succ]
  go_wp2
  go_end0
  refine ⟨⟨_, rfl⟩, S.out.congr (fun i hi => ?_), B.out⟩
  rcases (by omega : i = 0 ∨ i = 1 ∨ i = 2 ∨ i = 3 ∨ i = 4 ∨ i = 5 ∨ i = 6 ∨ i = 7 ∨ i = 8 ∨ i = 9 ∨ i = 10 ∨ i = 11 ∨ i = 12) with rfl | rfl | rfl | rfl | rfl | rfl | rfl | rfl | rfl | rfl | rfl | rfl | rfl <;> simp [updI, fw] <;> omega
set_option maxHeartbeats 4000000 in
theorem change4 (w : World) (g : Nat) (u : Nat → Int) (d : Int) (hd : -1 ≤ d ∧ d ≤ 1) (hu : Bit u) (h : Fn w g u) :
    Calls Try.prog 82 #[.pointer (some ⟨g, 0, none⟩), .int .i64 4, .int .i64 d] w fun e w' => (∃ v, e = .returned v) ∧ Fn w' g (updI u 4 (u 4 + d)) ∧ Below g w w' := by
  have c5 := h.cell 5 (by omega)
  have f5 := h.frozen 5
  have e5 : bits BinOp.and IntKind.i64 5 (-5) = 1 := by decide
  have n5 : wrap64 (5 + 1) = 6 := by unfold wrap64; omega
  have a5 : wrap64 (fw u 5 + d) = fw u 5 + d := by
    have := hu 0
    have := hu 1
    have := hu 2
    have := hu 3
    have := hu 4
    have := hu 5
    have := hu 6
    have := hu 7
    have := hu 8
    have := hu 9
    have := hu 10
    have := hu 11
    simp only [fw]; unfold wrap64; omega
  have c6 := h.cell 6 (by omega)
  have f6 := h.frozen 6
  have e6 : bits BinOp.and IntKind.i64 6 (-6) = 2 := by decide
  have n6 : wrap64 (6 + 2) = 8 := by unfold wrap64; omega
  have a6 : wrap64 (fw u 6 + d) = fw u 6 + d := by
    have := hu 0
    have := hu 1
    have := hu 2
    have := hu 3
    have := hu 4
    have := hu 5
    have := hu 6
    have := hu 7
    have := hu 8
    have := hu 9
    have := hu 10
    have := hu 11
    simp only [fw]; unfold wrap64; omega
  have c8 := h.cell 8 (by omega)
  have f8 := h.frozen 8
  have e8 : bits BinOp.and IntKind.i64 8 (-8) = 8 := by decide
  have n8 : wrap64 (8 + 8) = 16 := by unfold wrap64; omega
  have a8 : wrap64 (fw u 8 + d) = fw u 8 + d := by
    have := hu 0
    have := hu 1
    have := hu 2
    have := hu 3
    have := hu 4
    have := hu 5
    have := hu 6
    have := hu 7
    have := hu 8
    have := hu 9
    have := hu 10
    have := hu 11
    simp only [fw]; unfold wrap64; omega
  have S := Lib.hid ((((h.set 5 (fw u 5 + d)).drew.set 6 (fw u 6 + d)).drew.set 8 (fw u 8 + d)).drew)
  have B := Lib.hid (((((((Below.refl g w).setCell (p := ⟨g, 5, none⟩) (Nat.le_refl _) (.int .i64 (fw u 5 + d))).drew).setCell (p := ⟨g, 6, none⟩) (Nat.le_refl _) (.int .i64 (fw u 6 + d))).drew).setCell (p := ⟨g, 8, none⟩) (Nat.le_refl _) (.int .i64 (fw u 8 + d))).drew)
  clear h hu
  go_enter Try.func82, Try.ntmps82
  go_wp2
  refine wp_loop_rounds 4 ?_
  rw [rounds_succ]
  go_wp2
  go_region
  go_wp2
  rw [rounds_succ]
  go_wp2
  go_region
  go_wp2
  rw [rounds_succ]
  go_wp2
  go_region
  go_wp2
  rw [rounds_succ]
  go_wp2
  go_end0
  refine ⟨⟨_, rfl⟩, S.out.congr (fun i hi => ?_), B.out⟩
  rcases (by omega : i = 0 ∨ i = 1 ∨ i = 2 ∨ i = 3 ∨ i = 4 ∨ i = 5 ∨ i = 6 ∨ i = 7 ∨ i = 8 ∨ i = 9 ∨ i = 10 ∨ i = 11 ∨ i = 12) with rfl | rfl | rfl | rfl | rfl | rfl | rfl | rfl | rfl | rfl | rfl | rfl | rfl <;> simp [updI, fw] <;> omega
set_option maxHeartbeats 4000000 in
theorem change5 (w : World) (g : Nat) (u : Nat → Int) (d : Int) (hd : -1 ≤ d ∧ d ≤ 1) (hu : Bit u) (h : Fn w g u) :
    Calls Try.prog 82 #[.pointer (some ⟨g, 0, none⟩), .int .i64 5, .int .i64 d] w fun e w' => (∃ v, e = .returned v) ∧ Fn w' g (updI u 5 (u 5 + d)) ∧ Below g w w' := by
  have c6 := h.cell 6 (by omega)
  have f6 := h.frozen 6
  have e6 : bits BinOp.and IntKind.i64 6 (-6) = 2 := by decide
  have n6 : wrap64 (6 + 2) = 8 := by unfold wrap64; omega
  have a6 : wrap64 (fw u 6 + d) = fw u 6 + d := by
    have := hu 0
    have := hu 1
    have := hu 2
    have := hu 3
    have := hu 4
    have := hu 5
    have := hu 6
    have := hu 7
    have := hu 8
    have := hu 9
    have := hu 10
    have := hu 11
    simp only [fw]; unfold wrap64; omega
  have c8 := h.cell 8 (by omega)
  have f8 := h.frozen 8
  have e8 : bits BinOp.and IntKind.i64 8 (-8) = 8 := by decide
  have n8 : wrap64 (8 + 8) = 16 := by unfold wrap64; omega
  have a8 : wrap64 (fw u 8 + d) = fw u 8 + d := by
    have := hu 0
    have := hu 1
    have := hu 2
    have := hu 3
    have := hu 4
    have := hu 5
    have := hu 6
    have := hu 7
    have := hu 8
    have := hu 9
    have := hu 10
    have := hu 11
    simp only [fw]; unfold wrap64; omega
  have S := Lib.hid (((h.set 6 (fw u 6 + d)).drew.set 8 (fw u 8 + d)).drew)
  have B := Lib.hid (((((Below.refl g w).setCell (p := ⟨g, 6, none⟩) (Nat.le_refl _) (.int .i64 (fw u 6 + d))).drew).setCell (p := ⟨g, 8, none⟩) (Nat.le_refl _) (.int .i64 (fw u 8 + d))).drew)
  clear h hu
  go_enter Try.func82, Try.ntmps82
  go_wp2
  refine wp_loop_rounds 3 ?_
  rw [rounds_succ]
  go_wp2
  go_region
  go_wp2
  rw [rounds_succ]
  go_wp2
  go_region
  go_wp2
  rw [rounds_succ]
  go_wp2
  go_end0
  refine ⟨⟨_, rfl⟩, S.out.congr (fun i hi => ?_), B.out⟩
  rcases (by omega : i = 0 ∨ i = 1 ∨ i = 2 ∨ i = 3 ∨ i = 4 ∨ i = 5 ∨ i = 6 ∨ i = 7 ∨ i = 8 ∨ i = 9 ∨ i = 10 ∨ i = 11 ∨ i = 12) with rfl | rfl | rfl | rfl | rfl | rfl | rfl | rfl | rfl | rfl | rfl | rfl | rfl <;> simp [updI, fw] <;> omega
set_option maxHeartbeats 4000000 in
theorem change6 (w : World) (g : Nat) (u : Nat → Int) (d : Int) (hd : -1 ≤ d ∧ d ≤ 1) (hu : Bit u) (h : Fn w g u) :
    Calls Try.prog 82 #[.pointer (some ⟨g, 0, none⟩), .int .i64 6, .int .i64 d] w fun e w' => (∃ v, e = .returned v) ∧ Fn w' g (updI u 6 (u 6 + d)) ∧ Below g w w' := by
  have c7 := h.cell 7 (by omega)
  have f7 := h.frozen 7
  have e7 : bits BinOp.and IntKind.i64 7 (-7) = 1 := by decide
  have n7 : wrap64 (7 + 1) = 8 := by unfold wrap64; omega
  have a7 : wrap64 (fw u 7 + d) = fw u 7 + d := by
    have := hu 0
    have := hu 1
    have := hu 2
    have := hu 3
    have := hu 4
    have := hu 5
    have := hu 6
    have := hu 7
    have := hu 8
    have := hu 9
    have := hu 10
    have := hu 11
    simp only [fw]; unfold wrap64; omega
  have c8 := h.cell 8 (by omega)
  have f8 := h.frozen 8
  have e8 : bits BinOp.and IntKind.i64 8 (-8) = 8 := by decide
  have n8 : wrap64 (8 + 8) = 16 := by unfold wrap64; omega
  have a8 : wrap64 (fw u 8 + d) = fw u 8 + d := by
    have := hu 0
    have := hu 1
    have := hu 2
    have := hu 3
    have := hu 4
    have := hu 5
    have := hu 6
    have := hu 7
    have := hu 8
    have := hu 9
    have := hu 10
    have := hu 11
    simp only [fw]; unfold wrap64; omega
  have S := Lib.hid (((h.set 7 (fw u 7 + d)).drew.set 8 (fw u 8 + d)).drew)
  have B := Lib.hid (((((Below.refl g w).setCell (p := ⟨g, 7, none⟩) (Nat.le_refl _) (.int .i64 (fw u 7 + d))).drew).setCell (p := ⟨g, 8, none⟩) (Nat.le_refl _) (.int .i64 (fw u 8 + d))).drew)
  clear h hu
  go_enter Try.func82, Try.ntmps82
  go_wp2
  refine wp_loop_rounds 3 ?_
  rw [rounds_succ]
  go_wp2
  go_region
  go_wp2
  rw [rounds_succ]
  go_wp2
  go_region
  go_wp2
  rw [rounds_succ]
  go_wp2
  go_end0
  refine ⟨⟨_, rfl⟩, S.out.congr (fun i hi => ?_), B.out⟩
  rcases (by omega : i = 0 ∨ i = 1 ∨ i = 2 ∨ i = 3 ∨ i = 4 ∨ i = 5 ∨ i = 6 ∨ i = 7 ∨ i = 8 ∨ i = 9 ∨ i = 10 ∨ i = 11 ∨ i = 12) with rfl | rfl | rfl | rfl | rfl | rfl | rfl | rfl | rfl | rfl | rfl | rfl | rfl <;> simp [updI, fw] <;> omega
set_option maxHeartbeats 4000000 in
theorem change7 (w : World) (g : Nat) (u : Nat → Int) (d : Int) (hd : -1 ≤ d ∧ d ≤ 1) (hu : Bit u) (h : Fn w g u) :
    Calls Try.prog 82 #[.pointer (some ⟨g, 0, none⟩), .int .i64 7, .int .i64 d] w fun e w' => (∃ v, e = .returned v) ∧ Fn w' g (updI u 7 (u 7 + d)) ∧ Below g w w' := by
  have c8 := h.cell 8 (by omega)
  have f8 := h.frozen 8
  have e8 : bits BinOp.and IntKind.i64 8 (-8) = 8 := by decide
  have n8 : wrap64 (8 + 8) = 16 := by unfold wrap64; omega
  have a8 : wrap64 (fw u 8 + d) = fw u 8 + d := by
    have := hu 0
    have := hu 1
    have := hu 2
    have := hu 3
    have := hu 4
    have := hu 5
    have := hu 6
    have := hu 7
    have := hu 8
    have := hu 9
    have := hu 10
    have := hu 11
    simp only [fw]; unfold wrap64; omega
  have S := Lib.hid ((h.set 8 (fw u 8 + d)).drew)
  have B := Lib.hid (((Below.refl g w).setCell (p := ⟨g, 8, none⟩) (Nat.le_refl _) (.int .i64 (fw u 8 + d))).drew)
  clear h hu
  go_enter Try.func82, Try.ntmps82
  go_wp2
  refine wp_loop_rounds 2 ?_
  rw [rounds_succ]
  go_wp2
  go_region
  go_wp2
  rw [rounds_succ]
  go_wp2
  go_end0
  refine ⟨⟨_, rfl⟩, S.out.congr (fun i hi => ?_), B.out⟩
  rcases (by omega : i = 0 ∨ i = 1 ∨ i = 2 ∨ i = 3 ∨ i = 4 ∨ i = 5 ∨ i = 6 ∨ i = 7 ∨ i = 8 ∨ i = 9 ∨ i = 10 ∨ i = 11 ∨ i = 12) with rfl | rfl | rfl | rfl | rfl | rfl | rfl | rfl | rfl | rfl | rfl | rfl | rfl <;> simp [updI, fw] <;> omega
set_option maxHeartbeats 4000000 in
theorem change8 (w : World) (g : Nat) (u : Nat → Int) (d : Int) (hd : -1 ≤ d ∧ d ≤ 1) (hu : Bit u) (h : Fn w g u) :
    Calls Try.prog 82 #[.pointer (some ⟨g, 0, none⟩), .int .i64 8, .int .i64 d] w fun e w' => (∃ v, e = .returned v) ∧ Fn w' g (updI u 8 (u 8 + d)) ∧ Below g w w' := by
  have c9 := h.cell 9 (by omega)
  have f9 := h.frozen 9
  have e9 : bits BinOp.and IntKind.i64 9 (-9) = 1 := by decide
  have n9 : wrap64 (9 + 1) = 10 := by unfold wrap64; omega
  have a9 : wrap64 (fw u 9 + d) = fw u 9 + d := by
    have := hu 0
    have := hu 1
    have := hu 2
    have := hu 3
    have := hu 4
    have := hu 5
    have := hu 6
    have := hu 7
    have := hu 8
    have := hu 9
    have := hu 10
    have := hu 11
    simp only [fw]; unfold wrap64; omega
  have c10 := h.cell 10 (by omega)
  have f10 := h.frozen 10
  have e10 : bits BinOp.and IntKind.i64 10 (-10) = 2 := by decide
  have n10 : wrap64 (10 + 2) = 12 := by unfold wrap64; omega
  have a10 : wrap64 (fw u 10 + d) = fw u 10 + d := by
    have := hu 0
    have := hu 1
    have := hu 2
    have := hu 3
    have := hu 4
    have := hu 5
    have := hu 6
    have := hu 7
    have := hu 8
    have := hu 9
    have := hu 10
    have := hu 11
    simp only [fw]; unfold wrap64; omega
  have c12 := h.cell 12 (by omega)
  have f12 := h.frozen 12
  have e12 : bits BinOp.and IntKind.i64 12 (-12) = 4 := by decide
  have n12 : wrap64 (12 + 4) = 16 := by unfold wrap64; omega
  have a12 : wrap64 (fw u 12 + d) = fw u 12 + d := by
    have := hu 0
    have := hu 1
    have := hu 2
    have := hu 3
    have := hu 4
    have := hu 5
    have := hu 6
    have := hu 7
    have := hu 8
    have := hu 9
    have := hu 10
    have := hu 11
    simp only [fw]; unfold wrap64; omega
  have S := Lib.hid ((((h.set 9 (fw u 9 + d)).drew.set 10 (fw u 10 + d)).drew.set 12 (fw u 12 + d)).drew)
  have B := Lib.hid (((((((Below.refl g w).setCell (p := ⟨g, 9, none⟩) (Nat.le_refl _) (.int .i64 (fw u 9 + d))).drew).setCell (p := ⟨g, 10, none⟩) (Nat.le_refl _) (.int .i64 (fw u 10 + d))).drew).setCell (p := ⟨g, 12, none⟩) (Nat.le_refl _) (.int .i64 (fw u 12 + d))).drew)
  clear h hu
  go_enter Try.func82, Try.ntmps82
  go_wp2
  refine wp_loop_rounds 4 ?_
  rw [rounds_succ]
  go_wp2
  go_region
  go_wp2
  rw [rounds_succ]
  go_wp2
  go_region
  go_wp2
  rw [rounds_succ]
  go_wp2
  go_region
  go_wp2
  rw [rounds_succ]
  go_wp2
  go_end0
  refine ⟨⟨_, rfl⟩, S.out.congr (fun i hi => ?_), B.out⟩
  rcases (by omega : i = 0 ∨ i = 1 ∨ i = 2 ∨ i = 3 ∨ i = 4 ∨ i = 5 ∨ i = 6 ∨ i = 7 ∨ i = 8 ∨ i = 9 ∨ i = 10 ∨ i = 11 ∨ i = 12) with rfl | rfl | rfl | rfl | rfl | rfl | rfl | rfl | rfl | rfl | rfl | rfl | rfl <;> simp [updI, fw] <;> omega
set_option maxHeartbeats 4000000 in
theorem change9 (w : World) (g : Nat) (u : Nat → Int) (d : Int) (hd : -1 ≤ d ∧ d ≤ 1) (hu : Bit u) (h : Fn w g u) :
    Calls Try.prog 82 #[.pointer (some ⟨g, 0, none⟩), .int .i64 9, .int .i64 d] w fun e w' => (∃ v, e = .returned v) ∧ Fn w' g (updI u 9 (u 9 + d)) ∧ Below g w w' := by
  have c10 := h.cell 10 (by omega)
  have f10 := h.frozen 10
  have e10 : bits BinOp.and IntKind.i64 10 (-10) = 2 := by decide
  have n10 : wrap64 (10 + 2) = 12 := by unfold wrap64; omega
  have a10 : wrap64 (fw u 10 + d) = fw u 10 + d := by
    have := hu 0
    have := hu 1
    have := hu 2
    have := hu 3
    have := hu 4
    have := hu 5
    have := hu 6
    have := hu 7
    have := hu 8
    have := hu 9
    have := hu 10
    have := hu 11
    simp only [fw]; unfold wrap64; omega
  have c12 := h.cell 12 (by omega)
  have f12 := h.frozen 12
  have e12 : bits BinOp.and IntKind.i64 12 (-12) = 4 := by decide
  have n12 : wrap64 (12 + 4) = 16 := by unfold wrap64; omega
  have a12 : wrap64 (fw u 12 + d) = fw u 12 + d := by
    have := hu 0
    have := hu 1
    have := hu 2
    have := hu 3
    have := hu 4
    have := hu 5
    have := hu 6
    have := hu 7
    have := hu 8
    have := hu 9
    have := hu 10
    have := hu 11
    simp only [fw]; unfold wrap64; omega
  have S := Lib.hid (((h.set 10 (fw u 10 + d)).drew.set 12 (fw u 12 + d)).drew)
  have B := Lib.hid (((((Below.refl g w).setCell (p := ⟨g, 10, none⟩) (Nat.le_refl _) (.int .i64 (fw u 10 + d))).drew).setCell (p := ⟨g, 12, none⟩) (Nat.le_refl _) (.int .i64 (fw u 12 + d))).drew)
  clear h hu
  go_enter Try.func82, Try.ntmps82
  go_wp2
  refine wp_loop_rounds 3 ?_
  rw [rounds_succ]
  go_wp2
  go_region
  go_wp2
  rw [rounds_succ]
  go_wp2
  go_region
  go_wp2
  rw [rounds_succ]
  go_wp2
  go_end0
  refine ⟨⟨_, rfl⟩, S.out.congr (fun i hi => ?_), B.out⟩
  rcases (by omega : i = 0 ∨ i = 1 ∨ i = 2 ∨ i = 3 ∨ i = 4 ∨ i = 5 ∨ i = 6 ∨ i = 7 ∨ i = 8 ∨ i = 9 ∨ i = 10 ∨ i = 11 ∨ i = 12) with rfl | rfl | rfl | rfl | rfl | rfl | rfl | rfl | rfl | rfl | rfl | rfl | rfl <;> simp [updI, fw] <;> omega
set_option maxHeartbeats 4000000 in
theorem change10 (w : World) (g : Nat) (u : Nat → Int) (d : Int) (hd : -1 ≤ d ∧ d ≤ 1) (hu : Bit u) (h : Fn w g u) :
    Calls Try.prog 82 #[.pointer (some ⟨g, 0, none⟩), .int .i64 10, .int .i64 d] w fun e w' => (∃ v, e = .returned v) ∧ Fn w' g (updI u 10 (u 10 + d)) ∧ Below g w w' := by
  have c11 := h.cell 11 (by omega)
  have f11 := h.frozen 11
  have e11 : bits BinOp.and IntKind.i64 11 (-11) = 1 := by decide
  have n11 : wrap64 (11 + 1) = 12 := by unfold wrap64; omega
  have a11 : wrap64 (fw u 11 + d) = fw u 11 + d := by
    have := hu 0
    have := hu 1
    have := hu 2
    have := hu 3
    have := hu 4
    have := hu 5
    have := hu 6
    have := hu 7
    have := hu 8
    have := hu 9
    have := hu 10
    have := hu 11
    simp only [fw]; unfold wrap64; omega
  have c12 := h.cell 12 (by omega)
  have f12 := h.frozen 12
  have e12 : bits BinOp.and IntKind.i64 12 (-12) = 4 := by decide
  have n12 : wrap64 (12 + 4) = 16 := by unfold wrap64; omega
  have a12 : wrap64 (fw u 12 + d) = fw u 12 + d := by
    have := hu 0
    have := hu 1
    have := hu 2
    have := hu 3
    have := hu 4
    have := hu 5
    have := hu 6
    have := hu 7
    have := hu 8
    have := hu 9
    have := hu 10
    have := hu 11
    simp only [fw]; unfold wrap64; omega
  have S := Lib.hid (((h.set 11 (fw u 11 + d)).drew.set 12 (fw u 12 + d)).drew)
  have B := Lib.hid (((((Below.refl g w).setCell (p := ⟨g, 11, none⟩) (Nat.le_refl _) (.int .i64 (fw u 11 + d))).drew).setCell (p := ⟨g, 12, none⟩) (Nat.le_refl _) (.int .i64 (fw u 12 + d))).drew)
  clear h hu
  go_enter Try.func82, Try.ntmps82
  go_wp2
  refine wp_loop_rounds 3 ?_
  rw [rounds_succ]
  go_wp2
  go_region
  go_wp2
  rw [rounds_succ]
  go_wp2
  go_region
  go_wp2
  rw [rounds_succ]
  go_wp2
  go_end0
  refine ⟨⟨_, rfl⟩, S.out.congr (fun i hi => ?_), B.out⟩
  rcases (by omega : i = 0 ∨ i = 1 ∨ i = 2 ∨ i = 3 ∨ i = 4 ∨ i = 5 ∨ i = 6 ∨ i = 7 ∨ i = 8 ∨ i = 9 ∨ i = 10 ∨ i = 11 ∨ i = 12) with rfl | rfl | rfl | rfl | rfl | rfl | rfl | rfl | rfl | rfl | rfl | rfl | rfl <;> simp [updI, fw] <;> omega
set_option maxHeartbeats 4000000 in
theorem change11 (w : World) (g : Nat) (u : Nat → Int) (d : Int) (hd : -1 ≤ d ∧ d ≤ 1) (hu : Bit u) (h : Fn w g u) :
    Calls Try.prog 82 #[.pointer (some ⟨g, 0, none⟩), .int .i64 11, .int .i64 d] w fun e w' => (∃ v, e = .returned v) ∧ Fn w' g (updI u 11 (u 11 + d)) ∧ Below g w w' := by
  have c12 := h.cell 12 (by omega)
  have f12 := h.frozen 12
  have e12 : bits BinOp.and IntKind.i64 12 (-12) = 4 := by decide
  have n12 : wrap64 (12 + 4) = 16 := by unfold wrap64; omega
  have a12 : wrap64 (fw u 12 + d) = fw u 12 + d := by
    have := hu 0
    have := hu 1
    have := hu 2
    have := hu 3
    have := hu 4
    have := hu 5
    have := hu 6
    have := hu 7
    have := hu 8
    have := hu 9
    have := hu 10
    have := hu 11
    simp only [fw]; unfold wrap64; omega
  have S := Lib.hid ((h.set 12 (fw u 12 + d)).drew)
  have B := Lib.hid (((Below.refl g w).setCell (p := ⟨g, 12, none⟩) (Nat.le_refl _) (.int .i64 (fw u 12 + d))).drew)
  clear h hu
  go_enter Try.func82, Try.ntmps82
  go_wp2
  refine wp_loop_rounds 2 ?_
  rw [rounds_succ]
  go_wp2
  go_region
  go_wp2
  rw [rounds_succ]
  go_wp2
  go_end0
  refine ⟨⟨_, rfl⟩, S.out.congr (fun i hi => ?_), B.out⟩
  rcases (by omega : i = 0 ∨ i = 1 ∨ i = 2 ∨ i = 3 ∨ i = 4 ∨ i = 5 ∨ i = 6 ∨ i = 7 ∨ i = 8 ∨ i = 9 ∨ i = 10 ∨ i = 11 ∨ i = 12) with rfl | rfl | rfl | rfl | rfl | rfl | rfl | rfl | rfl | rfl | rfl | rfl | rfl <;> simp [updI, fw] <;> omega
theorem change (x : Nat) (hx : x < 12) (w : World) (g : Nat) (u : Nat → Int) (d : Int) (hd : -1 ≤ d ∧ d ≤ 1) (hu : Bit u) (h : Fn w g u) :
    Calls Try.prog 82 #[.pointer (some ⟨g, 0, none⟩), .int .i64 (x : Nat), .int .i64 d] w fun e w' => (∃ v, e = .returned v) ∧ Fn w' g (updI u x (u x + d)) ∧ Below g w w' := by
  rcases (by omega : x = 0 ∨ x = 1 ∨ x = 2 ∨ x = 3 ∨ x = 4 ∨ x = 5 ∨ x = 6 ∨ x = 7 ∨ x = 8 ∨ x = 9 ∨ x = 10 ∨ x = 11) with rfl | rfl | rfl | rfl | rfl | rfl | rfl | rfl | rfl | rfl | rfl | rfl
  · exact change0 w g u d hd hu h
  · exact change1 w g u d hd hu h
  · exact change2 w g u d hd hu h
  · exact change3 w g u d hd hu h
  · exact change4 w g u d hd hu h
  · exact change5 w g u d hd hu h
  · exact change6 w g u d hd hu h
  · exact change7 w g u d hd hu h
  · exact change8 w g u d hd hu h
  · exact change9 w g u d hd hu h
  · exact change10 w g u d hd hu h
  · exact change11 w g u d hd hu h
end Go.Proofs.Ytkonddifmonkcaa
