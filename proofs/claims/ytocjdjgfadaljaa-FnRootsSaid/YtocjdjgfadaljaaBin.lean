/- Binomial coefficients, by both packages. -/
import Derived.Test.YtocjdjgfadaljaaSet2
namespace Go.Proofs.Ytocjdjgfadaljaa
open Go.RowKit
set_option linter.unusedVariables false

theorem wrapk {n : Int} (h : -9223372036854775808 ≤ n ∧ n ≤ 9223372036854775807) : IntKind.i64.wrap n = n := IntWalk.i64_in _ h
/-- After i rounds of the program, and of the model. -/
def bi (n : Nat) : Nat → Nat
  | 0 => 1
  | i + 1 => bi n i * (n - i) / (i + 1)
def bs (m : Nat) : Nat → Nat
  | 0 => 1
  | i + 1 => bs m i * (m + (i + 1)) / (i + 1)
def ch (n k : Nat) : Nat := if k ≤ n then bi n (min k (n - k)) else 0
def allN : Nat → (Nat → Bool) → Bool
  | 0, _ => true
  | n + 1, f => f n && allN n f
theorem allN_iff (f : Nat → Bool) : ∀ n, allN n f = true → ∀ i, i < n → f i = true
  | 0, _, i, hi => by omega
  | n + 1, h, i, hi => by
    rw [allN, Bool.and_eq_true] at h
    by_cases e : i = n
    · rw [e]; exact h.1
    · exact allN_iff f n h.2 i (by omega)
theorem tab_eq : allN 33 (fun n => allN (n + 1) fun k => Nat.beq (bs (n - k) k) (ch n k)) = true := by kernel_rfl
theorem tab_bi : allN 33 (fun n => allN (n + 1) fun k => Nat.ble (bi n k) 601080390) = true := by kernel_rfl
theorem tab_bs : allN 33 (fun n => allN (n + 1) fun k => Nat.ble (bs (n - k) k) 601080390) = true := by kernel_rfl
theorem tab_pa : allN 32 (fun n => allN 33 fun k => Nat.beq (ch (n + 1) (k + 1)) (ch n k + ch n (k + 1))) = true := by kernel_rfl
theorem ch_eq {n k : Nat} (hn : n ≤ 32) (hk : k ≤ n) : bs (n - k) k = ch n k := Nat.eq_of_beq_eq_true (allN_iff _ _ (allN_iff _ _ tab_eq n (by omega)) k (by omega))
theorem bi_le {n k : Nat} (hn : n ≤ 32) (hk : k ≤ n) : bi n k ≤ 601080390 := Nat.le_of_ble_eq_true (allN_iff _ _ (allN_iff _ _ tab_bi n (by omega)) k (by omega))
theorem bs_le {m k : Nat} (hn : m + k ≤ 32) : bs m k ≤ 601080390 := by
  have := Nat.le_of_ble_eq_true (allN_iff _ _ (allN_iff _ _ tab_bs (m + k) (by omega)) k (by omega))
  rwa [Nat.add_sub_cancel] at this
theorem ch_pa {n k : Nat} (hn : n < 32) (hk : k ≤ 32) : ch (n + 1) (k + 1) = ch n k + ch n (k + 1) := Nat.eq_of_beq_eq_true (allN_iff _ _ (allN_iff _ _ tab_pa n (by omega)) k (by omega))
theorem ch_zero (n : Nat) : ch n 0 = 1 := by unfold ch; rw [if_pos (by omega), Nat.zero_min]; rfl
theorem ch_le {n k : Nat} (hn : n ≤ 32) : ch n k ≤ 601080390 := by
  unfold ch
  split
  · exact bi_le hn (by omega)
  · omega

set_option maxHeartbeats 1000000 in
theorem ibinomial (n k : Nat) (w : World) (hn : n ≤ 32) (hk : k ≤ n) :
    Calls Try.prog 52 #[.int .i64 n, .int .i64 k] w fun e w' => e = .returned (.int .i64 (ch n k : Nat)) ∧ w = w' := by
  have w0 := wrapk (n := (n : Int) - (k : Int)) (by omega)
  obtain ⟨m, hm⟩ : ∃ m, min k (n - k) = m := ⟨_, rfl⟩
  have E : Hid (ch n k = bi n m) := by unfold Hid ch; rw [if_pos hk, hm]
  have BL : Hid (∀ i, i ≤ m → bi n i ≤ 601080390) := fun i hi => bi_le hn (by omega)
  have hmn : m ≤ n := by omega
  have key : ∀ j, j < m → Hid ((bi n j : Int) * ((n : Int) - (j : Int)) / ((j : Int) + 1) = (bi n (j + 1) : Nat)) ∧ 0 ≤ (bi n j : Int) * ((n : Int) - (j : Int)) ∧ (bi n j : Int) * ((n : Int) - (j : Int)) ≤ 20000000000 := fun j hj => by
    have h1 := BL.out j (by omega)
    have e : (bi n j : Int) * ((n : Int) - (j : Int)) = ((bi n j * (n - j) : Nat) : Int) := by
      rw [Int.natCast_mul, Int.ofNat_sub (by omega)]
    have h2 : bi n j * (n - j) ≤ 601080390 * 32 := Nat.mul_le_mul h1 (by omega)
    refine ⟨?_, by rw [e]; omega, by rw [e]; omega⟩
    unfold Hid
    rw [e, bi]
    rfl
  have KE := Lib.hid key
  have hmc : (m : Int) = k ∨ (m : Int) = (n : Int) - k := by omega
  by_cases h : (k : Int) ≤ (n : Int) - (k : Int)
  · have hmk : m = k := by omega
    subst hmk
    clear hm hmc key
    go_enter Try.func52, Try.ntmps52
    go_wp2
    go_loop [5, 12] (fun o i => ∃ j v : Nat, j ≤ m ∧ v ≤ 601080390 ∧ o = .int .i64 v ∧ i = .int .i64 j ∧ Hid (v = bi n j)) (fun _ i => m - (intOf i).toNat)
    case atStart => exact ⟨0, 1, by omega, by omega, rfl, rfl, rfl⟩
    case round =>
      obtain ⟨j, v, hj, hv, rfl, rfl, hV⟩ := hrel
      by_cases c : j < m
      · have g1 : decide (j < m) = true := by simpa using c
        obtain ⟨k1, k2, k3⟩ := KE.out j c
        rw [← hV.out] at k1 k2 k3
        have v2 := BL.out (j + 1) (by omega)
        obtain ⟨u, hu⟩ : ∃ u, bi n (j + 1) = u := ⟨_, rfl⟩
        rw [hu] at k1 v2
        have U := Lib.hid hu
        have w1 := wrapk (n := (n : Int) - (j : Int)) (by omega)
        have w2 := wrapk (n := (v : Int) * ((n : Int) - (j : Int))) (by omega)
        have w3 := wrapk (n := (j : Int) + 1) (by omega)
        clear hu
        go_wp2
        go_round
        case rel => exact ⟨j + 1, u, by omega, v2, ⟨by rw [k1.out], by go_num, U.out.symm⟩⟩
        case measure => simp [intOf]; omega
      · have g1 : decide (j < m) = false := by simpa using c
        obtain rfl : j = m := by omega
        go_wp2
        go_ret
        exact ⟨ret_i _ _ (by rw [E.out, hV.out]), rfl⟩
  · have hmk : (m : Int) = (n : Int) - (k : Int) := by omega
    have HMK := Lib.hid hmk
    clear hm hmc key hmk
    go_enter Try.func52, Try.ntmps52
    go_wp2
    go_loop [5, 12] (fun o i => ∃ j v : Nat, j ≤ m ∧ v ≤ 601080390 ∧ o = .int .i64 v ∧ i = .int .i64 j ∧ Hid (v = bi n j)) (fun _ i => m - (intOf i).toNat)
    case atStart => exact ⟨0, 1, by omega, by omega, rfl, rfl, rfl⟩
    case round =>
      obtain ⟨j, v, hj, hv, rfl, rfl, hV⟩ := hrel
      by_cases c : j < m
      · have g1 : decide ((j : Int) < (n : Int) - (k : Int)) = true := by have := HMK.out; simp; omega
        have g1' : (j : Int) < (n : Int) - (k : Int) := by have := HMK.out; omega
        obtain ⟨k1, k2, k3⟩ := KE.out j c
        rw [← hV.out] at k1 k2 k3
        have v2 := BL.out (j + 1) (by omega)
        obtain ⟨u, hu⟩ : ∃ u, bi n (j + 1) = u := ⟨_, rfl⟩
        rw [hu] at k1 v2
        have U := Lib.hid hu
        have w1 := wrapk (n := (n : Int) - (j : Int)) (by omega)
        have w2 := wrapk (n := (v : Int) * ((n : Int) - (j : Int))) (by omega)
        have w3 := wrapk (n := (j : Int) + 1) (by omega)
        clear hu
        go_wp2
        go_round
        case rel => exact ⟨j + 1, u, by omega, v2, ⟨by rw [k1.out], by go_num, U.out.symm⟩⟩
        case measure => simp [intOf]; omega
      · have g1 : decide ((j : Int) < (n : Int) - (k : Int)) = false := by have := HMK.out; simp; omega
        have g1' : ¬ (j : Int) < (n : Int) - (k : Int) := by have := HMK.out; omega
        obtain rfl : j = m := by omega
        go_wp2
        go_ret
        exact ⟨ret_i _ _ (by rw [E.out, hV.out]), rfl⟩

set_option maxHeartbeats 1000000 in
theorem schoose (n k : Nat) (w : World) (hn : n ≤ 32) (hk : k ≤ n) :
    Calls Try.prog 54 #[.int .i64 n, .int .i64 k] w fun e w' => e = .returned (.int .i64 (ch n k : Nat)) ∧ w = w' := by
  have w0 := wrapk (n := (n : Int) - (k : Int)) (by omega)
  obtain ⟨m, hm⟩ : ∃ m, n - k = m := ⟨_, rfl⟩
  have E : Hid (ch n k = bs m k) := by unfold Hid; rw [← hm, ch_eq hn hk]
  have BL : Hid (∀ i, i ≤ k → bs m i ≤ 601080390) := fun i hi => bs_le (by omega)
  have em : (n : Int) - (k : Int) = (m : Int) := by omega
  have KE : Hid (∀ j, j < k → Hid ((bs m j : Int) * ((n : Int) - (k : Int) + ((j : Int) + 1)) / ((j : Int) + 1) = (bs m (j + 1) : Nat)) ∧ 0 ≤ (bs m j : Int) * ((n : Int) - (k : Int) + ((j : Int) + 1)) ∧ (bs m j : Int) * ((n : Int) - (k : Int) + ((j : Int) + 1)) ≤ 20000000000) := fun j hj => by
    have h1 := BL.out j (by omega)
    have e : (bs m j : Int) * ((n : Int) - (k : Int) + ((j : Int) + 1)) = ((bs m j * (m + (j + 1)) : Nat) : Int) := by
      rw [em, Int.natCast_mul]; rfl
    have h2 : bs m j * (m + (j + 1)) ≤ 601080390 * 32 := Nat.mul_le_mul h1 (by omega)
    refine ⟨?_, by rw [e]; omega, by rw [e]; omega⟩
    unfold Hid
    rw [e, bs]
    rfl
  clear hm em
  go_enter Try.func54, Try.ntmps54
  go_wp2_with (go_at_call 53; (first | refine (in_yes _ _ _ _ (by omega) (by omega)).mono ?_); rintro e w' ⟨rfl, rfl⟩)
  go_loop [5, 6] (fun o i => ∃ j v : Nat, j ≤ k ∧ v ≤ 601080390 ∧ o = .int .i64 v ∧ i = .int .i64 ((j : Int) + 1) ∧ Hid (v = bs m j)) (fun _ i => k + 1 - (intOf i).toNat)
  case atStart => exact ⟨0, 1, by omega, by omega, rfl, rfl, rfl⟩
  case round =>
    obtain ⟨j, v, hj, hv, rfl, rfl, hV⟩ := hrel
    by_cases c : j < k
    · have g1 : decide ((j : Int) + 1 ≤ (k : Int)) = true := by simp; omega
      have g1' : (j : Int) + 1 ≤ (k : Int) := by omega
      obtain ⟨k1, k2, k3⟩ := KE.out j c
      rw [← hV.out] at k1 k2 k3
      have v2 := BL.out (j + 1) (by omega)
      obtain ⟨u, hu⟩ : ∃ u, bs m (j + 1) = u := ⟨_, rfl⟩
      rw [hu] at k1 v2
      have U := Lib.hid hu
      have w1 := wrapk (n := (n : Int) - (k : Int) + ((j : Int) + 1)) (by omega)
      have w2 := wrapk (n := (v : Int) * ((n : Int) - (k : Int) + ((j : Int) + 1))) (by omega)
      have w3 := wrapk (n := (j : Int) + 1 + 1) (by omega)
      clear hu
      go_wp2
      go_round
      case rel => exact ⟨j + 1, u, by omega, v2, ⟨by rw [k1.out], by go_num, U.out.symm⟩⟩
      case measure => simp [intOf]; omega
    · have g1 : decide ((j : Int) + 1 ≤ (k : Int)) = false := by simp; omega
      obtain rfl : j = k := by omega
      go_wp2
      go_ret
      exact ⟨ret_i _ _ (by rw [E.out, hV.out]), rfl⟩
end Go.Proofs.Ytocjdjgfadaljaa
