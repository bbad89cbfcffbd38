/- The size of a field, by the program. -/
import Derived.Test.YtmlcdbjibngnkaaFi
import Derived.Test.YtmlcdbjibngnkaaPrime
namespace Go.Proofs.Ytmlcdbjibngnkaa
open Go.RowKit
set_option linter.unusedVariables false

theorem isPr_bd {p : Int} (h : isPr p = true) : 2 ≤ p ∧ p ≤ 1000000 := by
  by_cases k : 2 ≤ p ∧ p ≤ 1000000
  · exact k
  · have := isPr_no (n := p) (by omega)
    rw [h] at this; cases this

/-- The number of elements, or 0. -/
noncomputable def fsz (p k : Int) : Int := if isPr p = true ∧ 1 ≤ k ∧ p.toNat ^ k.toNat ≤ 64 then ((p.toNat ^ k.toNat : Nat) : Int) else 0

theorem sizeOf_any (p k : Int) (w : World) :
    Calls Try.prog 91 #[.int .i64 p, .int .i64 k] w fun e w' => e = .returned (.int .i64 (fsz p k)) ∧ Below w.heap.size w w' := by
  have HP := Lib.hid (fun W : World => iprime p W)
  by_cases hp : isPr p = true
  · obtain ⟨p1, p2⟩ := isPr_bd hp
    rw [hp] at HP
    by_cases hk : 1 ≤ k
    · obtain ⟨n, rfl⟩ : ∃ n : Nat, p = n := ⟨p.toNat, by omega⟩
      obtain ⟨m, rfl⟩ : ∃ m : Nat, k = m := ⟨k.toNat, by omega⟩
      have HV : Hid (fsz n m = if n ^ m ≤ 64 then ((n ^ m : Nat) : Int) else 0) := by
        unfold Hid fsz
        simp only [hp, true_and, Int.toNat_natCast]
        by_cases h : n ^ m ≤ 64
        · rw [if_pos ⟨hk, h⟩, if_pos h]
        · rw [if_neg (fun q => h q.2), if_neg h]
      clear hp
      go_enter Try.func91, Try.ntmps91
      go_wp2_with (go_at_call 105; refine (HP.out _).mono ?_; rintro e w1 ⟨rfl, hb1⟩)
      have B1 := Lib.hid hb1
      clear hb1
      go_loop [5, 14] (fun s i => ∃ j q : Nat, j ≤ m ∧ j ≤ 6 ∧ q ≤ 64 ∧ s = .int .i64 q ∧ i = .int .i64 j ∧ Hid (n ^ j = q)) (fun _ i => 7 - (intOf i).toNat)
      case atStart => exact ⟨0, 1, by omega, by omega, by omega, rfl, rfl, rfl⟩
      case round =>
        obtain ⟨j, q, hj, j6, hq, rfl, rfl, he⟩ := hrel
        by_cases hlt : j < m
        · have i1 : (j : Int) < (m : Int) := by omega
          obtain ⟨r, hr⟩ : ∃ r : Nat, q * n = r := ⟨_, rfl⟩
          have er : (q : Int) * (n : Int) = (r : Int) := by rw [← hr]; simp
          have rb : r ≤ 64 * 1000000 := by rw [← hr]; exact Nat.mul_le_mul hq (by omega)
          have ER : Hid (n ^ (j + 1) = r) := by unfold Hid; rw [Nat.pow_succ, he.out, hr]
          have R64 : Hid (r ≤ 64 → j + 1 ≤ 6) := by
            intro h
            by_cases h6 : j + 1 ≤ 6
            · exact h6
            · have a1 : 2 ^ 7 ≤ n ^ (j + 1) := Nat.le_trans (Nat.pow_le_pow_right (by omega) (by omega)) (Nat.pow_le_pow_left (by omega) _)
              have := ER.out
              omega
          clear hr
          by_cases hbig : r ≤ 64
          · have g1 : ¬ (64 : Int) < (r : Int) := by omega
            have j7 := R64.out hbig
            go_wp2
            go_round
            case rel => exact ⟨j + 1, r, by omega, by omega, hbig, rfl, by go_num, ER⟩
            case measure => simp only [intOf]; omega
          · have g1 : (64 : Int) < (r : Int) := by omega
            have E := Lib.hid (show fsz n m = 0 by
              rw [HV.out, if_neg]
              have a1 : n ^ (j + 1) ≤ n ^ m := Nat.pow_le_pow_right (by omega) (by omega)
              have := ER.out
              omega)
            go_wp2
            go_ret
            exact ⟨ret_i _ _ E.out.symm, B1.out⟩
        · obtain rfl : j = m := by omega
          have E := Lib.hid (show fsz n j = q by rw [HV.out, if_pos (by have := he.out; omega), he.out])
          have g1 : ¬ (j : Int) < (j : Int) := by omega
          go_wp2
          go_ret
          exact ⟨ret_i _ _ E.out.symm, B1.out⟩
    · have E := Lib.hid (show fsz p k = 0 by unfold fsz; rw [if_neg]; intro h; omega)
      have g1 : k < 1 := by omega
      clear hp hk
      go_enter Try.func91, Try.ntmps91
      go_wp2_with (go_at_call 105; refine (HP.out _).mono ?_; rintro e w1 ⟨rfl, hb1⟩)
      go_ret
      exact ⟨ret_i _ _ E.out.symm, hb1⟩
  · have hf : isPr p = false := by simpa using hp
    rw [hf] at HP
    have E := Lib.hid (show fsz p k = 0 by unfold fsz; rw [if_neg]; intro h; exact hp h.1)
    clear hp hf
    go_enter Try.func91, Try.ntmps91
    go_wp2_with (go_at_call 105; refine (HP.out _).mono ?_; rintro e w1 ⟨rfl, hb1⟩)
    go_ret
    exact ⟨ret_i _ _ E.out.symm, hb1⟩
end Go.Proofs.Ytmlcdbjibngnkaa
