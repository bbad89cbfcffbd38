/- Comparing two grids. -/
import Derived.Test.YtkbkaphgieimoaaIrd
import Derived.ChangeKeysEq
import Derived.Deep.RegionHeld2
namespace Go.Proofs.Ytkbkaphgieimoaa
open Go.RowKit Go.Shelf
set_option linter.unusedVariables false
set_option linter.unusedSimpArgs false

theorem run_eqItems_gen {P : Program} {w : World} {d : Nat} {e : TypeId} {c : Nat} {xs ys : Array Value} {A B : Nat → Value} {R : Nat → Bool} : ∀ (is : List Nat),
    (∀ i ∈ is, (part e xs (i * c)).run P w = .ok (A i) w ∧ (part e ys (i * c)).run P w = .ok (B i) w ∧ (Op.equalIn d e (A i) (B i)).run P w = .ok (R i) w) → (Op.eqItems d e c xs ys is).run P w = .ok (is.all R) w
  | [], _ => by simp [Op.eqItems]
  | i :: is, h => by
    obtain ⟨h1, h2, h3⟩ := h i (by simp)
    have ih := run_eqItems_gen is (fun j hj => h j (by simp [hj]))
    simp only [Op.eqItems, Sem.run_bind, h1, h2, h3, Result.andThen_ok, List.all_cons]
    cases R i <;> simp [ih]
theorem Try.undGrid : Try.prog.underlying 66 = some (.array 10 64) := by kernel_rfl
theorem Try.undLine : Try.prog.underlying 64 = some (.array 10 2) := by kernel_rfl
theorem Try.cellsLine : Try.prog.cellsOf 64 = 10 := by kernel_rfl
theorem Try.cellsI : Try.prog.cellsOf 2 = 1 := by kernel_rfl
theorem Try.undI : Try.prog.underlying 2 = some (.int .i64) := by kernel_rfl
theorem eqLine (d : Nat) (w : World) (xs ys : Array Value) (a b : Nat → Int) (hx : ∀ j, j < 10 → xs[j]? = some (.int .i64 (a j))) (hy : ∀ j, j < 10 → ys[j]? = some (.int .i64 (b j))) :
    (Op.equalIn (d + 2) 64 (.agg xs) (.agg ys)).run Try.prog w = .ok ((List.range 10).all fun j => a j == b j) w := by
  obtain ⟨i, hi⟩ := info_of_underlying Try.undI
  rw [run_equalIn_array w (d + 1) xs ys Try.undLine hi, Try.cellsI]
  refine run_eqItems_gen (A := fun j => .int .i64 (a j)) (B := fun j => .int .i64 (b j)) (R := fun j => a j == b j) _ fun j hj => ?_
  rw [List.mem_range] at hj
  rw [Nat.mul_one]
  exact ⟨run_part_plain w (by kernel_rfl) (hx j hj), run_part_plain w (by kernel_rfl) (hy j hj), run_equalIn_int w d 2 .i64 .i64 (a j) (b j) Try.undI⟩
theorem run_part_line (w : World) (xs : Array Value) (off : Nat) : (part 64 xs off).run Try.prog w = .ok (.agg (xs.extract off (off + 10))) w := by
  obtain ⟨i, hi⟩ := info_of_underlying Try.undLine
  simp [part, isAgg, run_underlying Try.undLine, run_sizeOf w hi, Try.cellsLine]
theorem eqGrid (w : World) (xs ys : Array Value) (c d : Nat → Int) (hx : ∀ k, k < 100 → xs[k]? = some (.int .i64 (c (1 + k)))) (hy : ∀ k, k < 100 → ys[k]? = some (.int .i64 (d (1 + k)))) :
    (Op.equalIn 10000 66 (.agg xs) (.agg ys)).run Try.prog w = .ok (eqG c d) w := by
  obtain ⟨i, hi⟩ := info_of_underlying Try.undLine
  rw [show (10000 : Nat) = 9999 + 1 from rfl, run_equalIn_array w 9999 xs ys Try.undGrid hi, Try.cellsLine]
  refine run_eqItems_gen (A := fun i => .agg (xs.extract (i * 10) (i * 10 + 10))) (B := fun i => .agg (ys.extract (i * 10) (i * 10 + 10))) (R := fun i => (List.range 10).all fun j => c (1 + i * 10 + j) == d (1 + i * 10 + j)) _ fun i hi => ?_
  rw [List.mem_range] at hi
  refine ⟨run_part_line w xs _, run_part_line w ys _, ?_⟩
  refine eqLine 9997 w _ _ (fun j => c (1 + i * 10 + j)) (fun j => d (1 + i * 10 + j)) (fun j hj => ?_) (fun j hj => ?_)
  · have := hx (i * 10 + j) (by omega)
    have h2 : i * 10 + j < xs.size := by
      rcases Nat.lt_or_ge (i * 10 + j) xs.size with h | h
      · exact h
      · rw [Array.getElem?_eq_none h] at this; cases this
    rw [Array.getElem?_extract, if_pos (by omega), this, show 1 + (i * 10 + j) = 1 + i * 10 + j by omega]
  · have := hy (i * 10 + j) (by omega)
    have h2 : i * 10 + j < ys.size := by
      rcases Nat.lt_or_ge (i * 10 + j) ys.size with h | h
      · exact h
      · rw [Array.getElem?_eq_none h] at this; cases this
    rw [Array.getElem?_extract, if_pos (by omega), this, show 1 + (i * 10 + j) = 1 + i * 10 + j by omega]
end Go.Proofs.Ytkbkaphgieimoaa
