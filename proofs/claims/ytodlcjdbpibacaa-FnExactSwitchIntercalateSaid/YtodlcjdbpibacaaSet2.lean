/- ValidSet of both packages. -/
import Derived.Test.YtodlcjdbpibacaaSet
namespace Go.Proofs.Ytodlcjdbpibacaa
open Go.RowKit
set_option linter.unusedVariables false

/-- What ValidSet answers. -/
noncomputable def validSet (xs : List Int) (n : Int) : Bool := decide (0 ≤ n) && decide (n ≤ 32) && risesB 0 (n - 1) xs

theorem ivalid (w : World) (v : Value) (xs : List Int) (n : Int) (hv : IntsAt w v xs) :
    Calls Try.prog 19 #[v, .int .i64 n] w fun e w' => e = .returned (.bool (validSet xs n)) ∧ w = w' := by
  by_cases h : 0 ≤ n ∧ n ≤ 32
  · obtain ⟨h1, h2⟩ := h
    have V := Lib.hid (show risesB 0 (n - 1) xs = validSet xs n by simp [validSet, h1, h2])
    obtain ⟨hl, hv⟩ := hv
    rcases hv with ⟨rfl, a, cap, rfl⟩ | ⟨g, off, cap, rfl, hc⟩
    · have V' := Lib.hid (show validSet [] n = true by rw [← V.out]; exact risesB_true fun i hi => absurd hi (by simp))
      go_enter Try.func19, Try.ntmps19
      go_wp2
      refine wp_loop_rounds 1 ?_
      rw [rounds_succ]
      go_wp2
      go_ret
      exact ⟨ret_b _ _ V'.out.symm, rfl⟩
    · have HC := Lib.hid hc
      clear hc
      obtain ⟨m, hm⟩ : ∃ m, xs.length = m := ⟨_, rfl⟩
      have HM := Lib.hid hm
      rw [hm] at hl ⊢
      clear hm
      go_enter Try.func19, Try.ntmps19
      go_wp2
      go_loop [5, 16] (fun b i => ∃ (j : Nat) (y : Int), j ≤ m ∧ i = .int .i64 j ∧ b = .int .i64 y ∧ Hid ((j = 0 → y = -1) ∧ (0 < j → xs.getD (j - 1) 0 = y) ∧ -1 ≤ y ∧ ∀ k, k < j → okAt 0 (n - 1) xs k)) (fun _ i => m - (intOf i).toNat)
      case atStart => exact ⟨0, -1, Nat.zero_le _, rfl, rfl, fun _ => rfl, fun h => by omega, by omega, fun k hk => by omega⟩
      case round =>
        obtain ⟨j, y, hj, rfl, rfl, hr⟩ := hrel
        by_cases hlt : j < m
        · obtain ⟨x, hx⟩ : ∃ x, xs.getD j 0 = x := ⟨_, rfl⟩
          have g1 := HC.out j (by rw [HM.out]; exact hlt)
          rw [hx] at g1
          have HX := Lib.hid hx
          have i1 : (0 : Int) ≤ (j : Int) := by omega
          have i2 : (j : Int) < (m : Int) := by omega
          clear hx
          by_cases hle : x ≤ y
          · have V' := Lib.hid (show validSet xs n = false by
              rw [← V.out]
              refine risesB_false fun h => ?_
              have h3 := h j (by rw [HM.out]; exact hlt)
              unfold okAt at h3
              rw [HX.out] at h3
              by_cases e : j = 0
              · have := hr.out.1 e; omega
              · have e1 := h3.2.2 (by omega)
                rw [hr.out.2.1 (by omega)] at e1
                omega)
            go_wp2
            go_ret
            exact ⟨ret_b _ _ V'.out.symm, rfl⟩
          · have hle' : decide (x ≤ y) = false := by simpa using hle
            by_cases hge : n ≤ x
            · have V' := Lib.hid (show validSet xs n = false by
                rw [← V.out]
                refine risesB_false fun h => ?_
                have h3 := h j (by rw [HM.out]; exact hlt)
                unfold okAt at h3
                rw [HX.out] at h3
                omega)
              clear hle
              go_wp2
              go_ret
              exact ⟨ret_b _ _ V'.out.symm, rfl⟩
            · have hge' : decide (n ≤ x) = false := by simpa using hge
              have V' := Lib.hid (show (j + 1 = 0 → x = -1) ∧ (0 < j + 1 → xs.getD (j + 1 - 1) 0 = x) ∧ -1 ≤ x ∧ ∀ k, k < j + 1 → okAt 0 (n - 1) xs k from
                ⟨fun h => by omega, fun _ => HX.out, by have := hr.out.2.2.1; omega, fun k hk => by
                  by_cases e : k = j
                  · subst e
                    unfold okAt
                    rw [HX.out]
                    have := hr.out.2.2.1
                    exact ⟨by omega, by omega, fun h => by rw [hr.out.2.1 h]; omega⟩
                  · exact hr.out.2.2.2 k (by omega)⟩)
              clear hle hge
              go_wp2
              go_round
              case rel => exact ⟨j + 1, x, by omega, by go_num, rfl, V'⟩
              case measure => simp [intOf]; omega
        · have V' := Lib.hid (show validSet xs n = true by rw [← V.out]; exact risesB_true fun i hi => hr.out.2.2.2 i (by have := HM.out; omega))
          go_wp2
          go_ret
          exact ⟨ret_b _ _ V'.out.symm, rfl⟩
  · have V := Lib.hid (show validSet xs n = false by
      unfold validSet
      by_cases h1 : 0 ≤ n
      · rw [decide_eq_false (show ¬ n ≤ 32 by omega)]; simp
      · rw [decide_eq_false h1]; simp)
    by_cases h1 : n < 0
    · clear h hv
      go_enter Try.func19, Try.ntmps19
      go_wp2
      go_ret
      exact ⟨ret_b _ _ V.out.symm, rfl⟩
    · have h2 : 32 < n := by omega
      clear h hv
      go_enter Try.func19, Try.ntmps19
      go_wp2
      go_ret
      exact ⟨ret_b _ _ V.out.symm, rfl⟩

end Go.Proofs.Ytodlcjdbpibacaa
