/- b10Nums. -/
import Derived.Test.YtijoejejdnhknaaDoorArg
namespace Go.Proofs.YtijoejejdnhknaaDoor
open Go.RowKit
set_option linter.unusedVariables false

/-- Slices that read alike. -/
theorem nums_same (w : World) (u v : Value) (xs : List Int) (hu : IntsAt w u xs) (hv : IntsAt w v xs) :
    Calls Tryd.prog 13 #[u, v] w fun e w' => e = .returned (.bool true) ∧ ∃ n, w' = w.drewN n := by
  obtain ⟨m, hm⟩ : ∃ m, xs.length = m := ⟨_, rfl⟩
  have part : ∀ {v : Value}, IntsAt w v xs → ∃ a cap, v = .slice a m cap ∧ ∀ j, j < m → ∃ g off, a = some ⟨g, off, none⟩ ∧ w.cell? ⟨g, off + j, none⟩ = some (.int .i64 (xs.getD j 0)) := fun {v} hv => by
    obtain ⟨_, ⟨rfl, a, cap, rfl⟩ | ⟨g, off, cap, rfl, hc⟩⟩ := hv
    · rw [← hm]; exact ⟨a, cap, rfl, fun j hj => by simp at hj⟩
    · rw [hm]; exact ⟨_, cap, rfl, fun j hj => ⟨g, off, rfl, hc j (by omega)⟩⟩
  obtain ⟨a, cap, rfl, hc⟩ := part hu
  obtain ⟨b, capb, rfl, hd⟩ := part hv
  have hml : m ≤ 9223372036854775807 := by rw [← hm]; exact hv.1
  have HC := Lib.hid hc
  have HD := Lib.hid hd
  have t : ((m : Int) != (m : Int)) = false := by simp
  clear hc hd hu hv part hm
  go_enter Tryd.func13, Tryd.ntmps13
  go_wp2
  go_loopw [5] (fun i wr => ∃ j : Nat, j ≤ m ∧ i = .int .i64 j ∧ ∃ d, wr = w.drewN d) (fun i _ => m - (intOf i).toNat)
  case atStart => exact ⟨0, by omega, rfl, 0, rfl⟩
  case round =>
    obtain ⟨j, hj, rfl, d, rfl⟩ := hrel
    by_cases c : j < m
    · have g1 : decide (j < m) = true := by simpa using c
      obtain ⟨g, off, rfl, c1⟩ := HC.out j c
      obtain ⟨g', off', rfl, c2⟩ := HD.out j c
      obtain ⟨x, hx⟩ : ∃ x, xs.getD j 0 = x := ⟨_, rfl⟩
      rw [hx] at c1 c2
      have j0 : (0 : Int) ≤ (j : Int) := by omega
      have j1 : (j : Int) < (m : Int) := by omega
      have w3 := IntWalk.i64_in ((j : Int) + 1) (by omega)
      have t2 : (x != x) = false := by simp
      clear hx
      go_wp2
      go_quiet (fail)
      go_wp2
      go_roundw
      case rel => exact ⟨j + 1, by omega, by go_num, _, rfl⟩
      case measure => simp [intOf]; omega
    · have g1 : decide (j < m) = false := by simpa using c
      go_wp2
      go_ret
      exact ⟨rfl, _, rfl⟩
end Go.Proofs.YtijoejejdnhknaaDoor
