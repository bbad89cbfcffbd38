/- The integer square root by binary search, and FactorsOf of the program. -/
import Derived.Test.YtocjdjgfadaljaaPrimes
import Derived.Laws.EntriesVeiled
namespace Go.Proofs.Ytocjdjgfadaljaa
open Go.RowKit
set_option linter.unusedVariables false

theorem root_test (b n i : Nat) (w : World) (hi : i ≤ 1000) (hc : w.cell? ⟨b, 0, none⟩ = some (.int .i64 n)) (r : Bool) (hr : r = decide (n < (i + 1) * (i + 1))) :
    Calls Try.prog 62 #[.int .i64 i, .pointer (some ⟨b, 0, none⟩)] w fun e w' => e = .returned (.bool r) ∧ w = w' := by
  have i1 : (i : Int) ≤ 1000 := by omega
  have kk : (i + 1) * (i + 1) ≤ 1001 * 1001 := Nat.mul_le_mul (by omega) (by omega)
  have kk1 : ((i : Int) + 1) * ((i : Int) + 1) ≤ 1002001 := by have := Int.ofNat_le.2 kk; simpa using this
  have kk0 : (0 : Int) ≤ ((i : Int) + 1) * ((i : Int) + 1) := Int.mul_nonneg (by omega) (by omega)
  have ec : (((i + 1) * (i + 1) : Nat) : Int) = ((i : Int) + 1) * ((i : Int) + 1) := by simp
  have E := Lib.hid (show decide ((n : Int) < ((i : Int) + 1) * ((i : Int) + 1)) = r by
    rw [hr, ← ec]
    exact decide_eq_decide.2 (by omega))
  clear ec
  clear kk hr
  go_enter Try.func62, Try.ntmps62
  go_wp2
  go_ret
  exact ⟨ret_b _ _ E.out, rfl⟩

theorem search_root (b n : Nat) (w : World) (h1 : 1 ≤ n) (h2 : n ≤ 1000000) (hc : w.cell? ⟨b, 0, none⟩ = some (.int .i64 n)) :
    Calls Try.prog 61 #[.int .i64 1000, .func (.func 62) #[] #[.pointer (some ⟨b, 0, none⟩)]] w fun e w' => ∃ L : Nat, e = .returned (.int .i64 L) ∧ (1 ≤ L ∧ L ≤ 1000 ∧ n < (L + 1) * (L + 1)) ∧ w = w' := by
  have HC := Lib.hid hc
  clear hc
  go_enter Try.func61, Try.ntmps61
  go_wp2
  go_loop [5, 6] (fun x y => ∃ i j : Nat, i ≤ j ∧ j ≤ 1000 ∧ x = .int .i64 i ∧ y = .int .i64 j ∧ Hid (n < (j + 1) * (j + 1))) (fun x y => ((intOf y) - (intOf x)).toNat)
  case atStart => exact ⟨0, 1000, by omega, by omega, rfl, rfl, by unfold Hid; omega⟩
  case round =>
    obtain ⟨i, j, hij, hj, rfl, rfl, hr⟩ := hrel
    by_cases hlt : i < j
    · have hlt' : (i : Int) < (j : Int) := by omega
      obtain ⟨h, hh⟩ : ∃ h : Nat, (i + j) / 2 = h := ⟨_, rfl⟩
      have e : ((i : Int) + (j : Int)) / 2 = (h : Int) := by omega
      have b1 : i ≤ h := by omega
      have b2 : h < j := by omega
      clear hh
      have HE := Lib.hid e
      clear e
      go_wp2_with fail
      rw [HE.out]
      by_cases ht : n < (h + 1) * (h + 1)
      · refine (root_test b n h _ (by omega) HC.out true (by simp [ht])).mono ?_
        rintro e w' ⟨rfl, rfl⟩
        have HT := Lib.hid ht
        clear ht
        go_wp2
        go_round
        case rel => exact ⟨i, h, b1, by omega, rfl, rfl, HT⟩
        case measure => simp only [intOf]; omega
      · refine (root_test b n h _ (by omega) HC.out false (by simp; omega)).mono ?_
        rintro e w' ⟨rfl, rfl⟩
        clear ht
        go_wp2
        go_round
        case rel => exact ⟨h + 1, j, by omega, hj, by go_num, rfl, hr⟩
        case measure => simp only [intOf]; omega
    · obtain rfl : i = j := by omega
      go_wp2
      go_ret
      exact ⟨i, rfl, ⟨by
        by_cases e : i = 0
        · subst e; have := hr.out; omega
        · omega, hj, hr.out⟩, rfl⟩
end Go.Proofs.Ytocjdjgfadaljaa
