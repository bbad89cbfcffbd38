/- The program's Fenwick tree of the numbers less than n. -/
import Derived.Test.YtkonddifmonkcaaFn
namespace Go.Proofs.Ytkonddifmonkcaa
open Go.RowKit
set_option linter.unusedVariables false

theorem Try.infoFen : (Try.prog.info? 89).map (·.size) = some 13 := by kernel_rfl
theorem Fn.zero {w : World} {g : Nat} (h : w.heap[g]? = some (.cells #[.int .i64 0, .int .i64 0, .int .i64 0, .int .i64 0, .int .i64 0, .int .i64 0, .int .i64 0, .int .i64 0, .int .i64 0, .int .i64 0, .int .i64 0, .int .i64 0, .int .i64 0] 89 (0, 0))) : Ia w 89 g 13 (fun _ => 0) := h
/-- The numbers less than n. -/
def lt1 (n : Nat) : Nat → Int := fun y => if y < n then 1 else 0
theorem lt1_bit (n : Nat) : Bit (lt1 n) := fun y => by unfold lt1; split <;> omega
theorem lt1_succ (n : Nat) : updI (lt1 n) n (lt1 n n + 1) = lt1 (n + 1) := by
  funext y
  unfold updI lt1
  by_cases h : y = n
  · subst h; rw [if_pos rfl, if_neg (Nat.lt_irrefl _), if_pos (Nat.lt_succ_self _)]; rfl
  · rw [if_neg h]
    by_cases h2 : y < n
    · rw [if_pos h2, if_pos (by omega)]
    · rw [if_neg h2, if_neg (by omega)]
theorem fw_zero : ∀ i, i < 13 → (fun _ => (0 : Int)) i = fw (lt1 0) i := fun i hi => by
  rcases (by omega : i = 0 ∨ i = 1 ∨ i = 2 ∨ i = 3 ∨ i = 4 ∨ i = 5 ∨ i = 6 ∨ i = 7 ∨ i = 8 ∨ i = 9 ∨ i = 10 ∨ i = 11 ∨ i = 12) with rfl | rfl | rfl | rfl | rfl | rfl | rfl | rfl | rfl | rfl | rfl | rfl | rfl <;> rfl

set_option maxHeartbeats 4000000 in
theorem iunused (n : Nat) (hn : n ≤ 12) (W : World) :
    Calls Try.prog 80 #[.int .i64 n] W fun e w' => e = .returned (.agg (iar 13 (fw (lt1 n)))) ∧ Below W.heap.size W w' := by
  have R0 : Hid (Ia ((W.alloc (.cells #[.int .i64 0, .int .i64 0, .int .i64 0, .int .i64 0, .int .i64 0, .int .i64 0, .int .i64 0, .int .i64 0, .int .i64 0, .int .i64 0, .int .i64 0, .int .i64 0, .int .i64 0] 89)).alloc (.cells #[.int .i64 0, .int .i64 0, .int .i64 0, .int .i64 0, .int .i64 0, .int .i64 0, .int .i64 0, .int .i64 0, .int .i64 0, .int .i64 0, .int .i64 0, .int .i64 0, .int .i64 0] 89)) 89 W.heap.size 13 (fun _ => 0)) := Fn.zero (heap_alloc2_old _ _ _)
  have T0 : Hid (Fn ((W.alloc (.cells #[.int .i64 0, .int .i64 0, .int .i64 0, .int .i64 0, .int .i64 0, .int .i64 0, .int .i64 0, .int .i64 0, .int .i64 0, .int .i64 0, .int .i64 0, .int .i64 0, .int .i64 0] 89)).alloc (.cells #[.int .i64 0, .int .i64 0, .int .i64 0, .int .i64 0, .int .i64 0, .int .i64 0, .int .i64 0, .int .i64 0, .int .i64 0, .int .i64 0, .int .i64 0, .int .i64 0, .int .i64 0] 89)) (W.heap.size + 1) (lt1 0)) := (Fn.zero (heap_alloc2_new _ _ _)).congr fw_zero
  have BO : Hid (Below W.heap.size W ((W.alloc (.cells #[.int .i64 0, .int .i64 0, .int .i64 0, .int .i64 0, .int .i64 0, .int .i64 0, .int .i64 0, .int .i64 0, .int .i64 0, .int .i64 0, .int .i64 0, .int .i64 0, .int .i64 0] 89)).alloc (.cells #[.int .i64 0, .int .i64 0, .int .i64 0, .int .i64 0, .int .i64 0, .int .i64 0, .int .i64 0, .int .i64 0, .int .i64 0, .int .i64 0, .int .i64 0, .int .i64 0, .int .i64 0] 89))) := ((Below.refl _ _).alloc (Nat.le_refl _) _).alloc (by rw [World.size_alloc]; omega) _
  go_enter Try.func80, Try.ntmps80
  go_wp2
  go_loopw [6] (fun i wr => ∃ j : Nat, j ≤ n ∧ i = .int .i64 j ∧ Hid (Ia wr 89 W.heap.size 13 (fun _ => 0)) ∧ Hid (Fn wr (W.heap.size + 1) (lt1 j)) ∧ Hid (Below W.heap.size W wr)) (fun i _ => n - (intOf i).toNat)
  case atStart => exact ⟨0, by omega, rfl, R0, T0, BO⟩
  case round =>
    obtain ⟨j, hj, rfl, hR, hT, hBl⟩ := hrel
    by_cases c : j < n
    · have k1 : decide (j < n) = true := by simpa using c
      have k1' : decide ((j : Int) < (n : Int)) = true := decide_eq_true (by omega)
      have w3 := IntWalk.i64_in ((j : Int) + 1) (by omega)
      have CH := Lib.hid (change j (by omega) wr (W.heap.size + 1) (lt1 j) 1 (by omega) (lt1_bit j) hT.out)
      go_wp2_with fail
      refine CH.out.mono ?_
      rintro e w1 ⟨⟨v, rfl⟩, t1, b1⟩
      rw [lt1_succ] at t1
      have T1 := Lib.hid t1
      have R1 : Hid (Ia w1 89 W.heap.size 13 (fun _ => 0)) := hR.out.below b1 (by omega)
      have B1 : Hid (Below W.heap.size W w1) := hBl.out.trans (b1.mono (by omega))
      clear t1 b1
      go_wp2
      go_roundw
      case rel => exact ⟨j + 1, by omega, by go_num, R1, T1, B1⟩
      case measure => simp [intOf]; omega
    · have k1 : decide (j < n) = false := by simpa using c
      have k1' : decide ((j : Int) < (n : Int)) = false := decide_eq_false (by omega)
      obtain rfl : j = n := by omega
      have P2 : Hid (Ia (wr.setRow W.heap.size (iar 13 (fw (lt1 j)))) 89 W.heap.size 13 (fw (lt1 j))) := setRow_heap _ _ _ _ _ _ hR.out
      go_upto_region 7 with fail
      refine wp_region_list ?_
      refine wpList_load_row rfl 89 (.tmp 3) rfl _ rfl _ _ _ _ hT.out Try.underlying89 rfl (by rw [iar_size]; exact Try.infoFen) ?_
      refine wpList_store_row rfl 89 (.tmp 2) (.tmp 12) rfl _ (iar 13 (fw (lt1 j))) rfl rfl _ _ hR.out (by rw [iar_size]; exact Try.infoFen) (by rw [iar_size, iar_size]) (iar_one _ _) ?_
      go_wp2
      refine bodyPost_ret (v := .agg (iar 13 (fw (lt1 j)))) (results_cell_row Try.results80 _ _ _ _ _ _ _ rfl P2.out Try.underlying89 rfl (by rw [iar_size]; exact Try.infoFen)) rfl ⟨rfl, ?_⟩
      exact below_row hBl.out (Nat.le_refl _) _
end Go.Proofs.Ytkonddifmonkcaa
