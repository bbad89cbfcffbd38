/- RankPermutation: the model. -/
import Derived.Test.YtkonddifmonkcaaRkm
namespace Go.Proofs.Ytkonddifmonkcaa
open Go.RowKit
set_option linter.unusedVariables false

set_option maxHeartbeats 1000000 in
theorem sfact (n : Nat) (hn : n ≤ 12) (w : World) :
    Calls Try.prog 86 #[.int .i64 n] w fun e w' => e = .returned (.int .i64 (fct n : Nat)) ∧ w' = w := by
  go_enter Try.func86, Try.ntmps86
  go_wp2
  go_loop [3, 4] (fun o i => ∃ j : Nat, j ≤ n ∧ (i = .int .i64 ((j : Int) + 1) ∧ 1 ≤ j ∧ o = .int .i64 (fct j : Nat) ∨ n = 0 ∧ i = .int .i64 2 ∧ o = .int .i64 1)) (fun _ i => n + 2 - (intOf i).toNat)
  case atStart =>
    by_cases h : n = 0
    · exact ⟨0, by omega, .inr ⟨h, rfl, rfl⟩⟩
    · exact ⟨1, by omega, .inl ⟨rfl, by omega, rfl⟩⟩
  case round =>
    obtain ⟨j, hj, (⟨rfl, h1, rfl⟩ | ⟨rfl, rfl, rfl⟩)⟩ := hrel
    · by_cases c : j < n
      · have k1 : decide ((j : Int) + 1 ≤ (n : Int)) = true := decide_eq_true (by omega)
        have F := fct12 (n := j + 1) (by omega)
        have F2 : fct (j + 1) = (j + 1) * fct j := rfl
        have HF : Hid ((fct j : Int) * ((j : Int) + 1) = (fct (j + 1) : Nat)) := by unfold Hid; rw [F2, Int.natCast_mul, Int.mul_comm]; rfl
        obtain ⟨q, hq⟩ : ∃ q, fct (j + 1) = q := ⟨_, rfl⟩
        rw [hq] at HF F
        obtain ⟨r, hr⟩ : ∃ r, fct j = r := ⟨_, rfl⟩
        rw [hr] at HF ⊢
        have HQ := Lib.hid hq
        have w1 : wrap64 ((r : Int) * ((j : Int) + 1)) = (q : Int) := by rw [HF.out]; unfold wrap64; omega
        have W1 := Lib.hid w1
        have w3 := IntWalk.i64_in ((j : Int) + 1 + 1) (by omega)
        clear hq hr F2
        go_wp2
        go_round
        case rel => exact ⟨j + 1, by omega, .inl ⟨by go_num, by omega, by rw [HQ.out, W1.out]⟩⟩
        case measure => simp [intOf]; omega
      · have k1 : decide ((j : Int) + 1 ≤ (n : Int)) = false := decide_eq_false (by omega)
        obtain rfl : j = n := by omega
        go_wp2
        go_ret
        exact ⟨rfl, rfl⟩
    · go_wp2
      go_ret
      exact ⟨rfl, rfl⟩

end Go.Proofs.Ytkonddifmonkcaa
