/- How many indices a set of indices has. -/
import Derived.Test.YtanfodbpgpfjmabDoorWb
import Derived.Test.YtanfodbpgpfjmabDoorOc6
namespace Go.Proofs.YtanfodbpgpfjmabDoor
open Go.RowKit Go.Shelf
set_option linter.unusedVariables false

set_option maxRecDepth 100000 in
set_option maxHeartbeats 1000000 in
theorem isize2 (a b : Nat) (ha : a < 18446744073709551616) (hb : b < 18446744073709551616) (w : World) :
    Calls Tryd.prog 70 #[.agg #[.int .u64 a, .int .u64 b]] w fun e w' => e = .returned (.int .i64 (cnt 64 (fun i => a.testBit i) + cnt 64 (fun i => b.testBit i) : Nat)) ∧ Below w.heap.size w w' := by
  have i0 : ∀ W : World, (Instr.index 103 (.agg #[.int .u64 a, .int .u64 b]) (.int .i64 0)).run Tryd.prog W = .ok (.int .u64 a) W := fun W => by kernel_rfl
  have i1 : ∀ W : World, (Instr.index 103 (.agg #[.int .u64 a, .int .u64 b]) (.int .i64 1)).run Tryd.prog W = .ok (.int .u64 b) W := fun W => by kernel_rfl
  have H1 := Lib.hid (fun W => iones64 a W ha)
  have H2 := Lib.hid (fun W => iones64 b W hb)
  have l1 := cnt_le (fun i => a.testBit i) 64
  have l2 := cnt_le (fun i => b.testBit i) 64
  obtain ⟨x, hx⟩ : ∃ x, cnt 64 (fun i => a.testBit i) = x := ⟨_, rfl⟩
  obtain ⟨y, hy⟩ : ∃ y, cnt 64 (fun i => b.testBit i) = y := ⟨_, rfl⟩
  simp only [hx] at H1 ⊢
  simp only [hy] at H2 ⊢
  have w0 := IntWalk.i64_in (x : Int) (by omega)
  have w1 := IntWalk.i64_in ((x : Int) + (y : Int)) (by omega)
  have B1 : Hid (Below w.heap.size w (w.alloc (.cells #[.int .u64 a, .int .u64 b] 103))) := (Below.refl _ _).alloc (Nat.le_refl _) _
  clear hx hy l1 l2 ha hb
  go_enter Tryd.func70, Tryd.ntmps70
  go_wp2
  refine wp_loop_rounds 3 ?_
  rw [rounds_succ]
  go_wp2_with fail
  refine (H1.out _).mono ?_
  rintro e w2 ⟨rfl, rfl⟩
  go_wp2
  rw [rounds_succ]
  go_wp2_with fail
  refine (H2.out _).mono ?_
  rintro e w3 ⟨rfl, rfl⟩
  go_wp2
  rw [rounds_succ]
  go_wp2
  go_ret
  exact ⟨rfl, B1.out⟩
end Go.Proofs.YtanfodbpgpfjmabDoor
