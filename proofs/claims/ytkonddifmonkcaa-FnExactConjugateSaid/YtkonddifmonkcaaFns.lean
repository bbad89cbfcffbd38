/- The Fenwick tree's search (by tools/genunused.py). -/
import Derived.Test.YtkonddifmonkcaaFn
namespace Go.Proofs.Ytkonddifmonkcaa
open Go.RowKit
set_option linter.unusedVariables false

set_option maxRecDepth 100000 in
set_option maxHeartbeats 8000000 in
theorem unused (w : World) (g : Nat) (u : Nat → Int) (b : Int) (hu : ∀ y, 0 ≤ u y ∧ u y ≤ 1) (hb : 0 ≤ b) (hs : b < sumU u 12) (h : Fn w g u) :
    Calls Try.prog 81 #[.pointer (some ⟨g, 0, none⟩), .int .i64 b] w fun e w' => ∃ x : Nat, e = .returned (.int .i64 (x : Nat)) ∧ x < 12 ∧ u x = 1 ∧ sumU u x = b ∧ w' = w := by
  have u0 := hu 0
  have u1 := hu 1
  have u2 := hu 2
  have u3 := hu 3
  have u4 := hu 4
  have u5 := hu 5
  have u6 := hu 6
  have u7 := hu 7
  have u8 := hu 8
  have u9 := hu 9
  have u10 := hu 10
  have u11 := hu 11
  have b13 : b ≤ 12 := by simp only [sumU] at hs; omega
  have c1 := h.cell 1 (by omega)
  have c2 := h.cell 2 (by omega)
  have c3 := h.cell 3 (by omega)
  have c4 := h.cell 4 (by omega)
  have c5 := h.cell 5 (by omega)
  have c6 := h.cell 6 (by omega)
  have c7 := h.cell 7 (by omega)
  have c8 := h.cell 8 (by omega)
  have c9 := h.cell 9 (by omega)
  have c10 := h.cell 10 (by omega)
  have c11 := h.cell 11 (by omega)
  have c12 := h.cell 12 (by omega)
  obtain ⟨v1, V1⟩ : ∃ v, fw u 1 = v := ⟨_, rfl⟩
  rw [V1] at c1
  simp only [fw] at V1
  have r1 : 0 ≤ v1 ∧ v1 ≤ 20 := by omega
  obtain ⟨v2, V2⟩ : ∃ v, fw u 2 = v := ⟨_, rfl⟩
  rw [V2] at c2
  simp only [fw] at V2
  have r2 : 0 ≤ v2 ∧ v2 ≤ 20 := by omega
  obtain ⟨v3, V3⟩ : ∃ v, fw u 3 = v := ⟨_, rfl⟩
  rw [V3] at c3
  simp only [fw] at V3
  have r3 : 0 ≤ v3 ∧ v3 ≤ 20 := by omega
  obtain ⟨v4, V4⟩ : ∃ v, fw u 4 = v := ⟨_, rfl⟩
  rw [V4] at c4
  simp only [fw] at V4
  have r4 : 0 ≤ v4 ∧ v4 ≤ 20 := by omega
  obtain ⟨v5, V5⟩ : ∃ v, fw u 5 = v := ⟨_, rfl⟩
  rw [V5] at c5
  simp only [fw] at V5
  have r5 : 0 ≤ v5 ∧ v5 ≤ 20 := by omega
  obtain ⟨v6, V6⟩ : ∃ v, fw u 6 = v := ⟨_, rfl⟩
  rw [V6] at c6
  simp only [fw] at V6
  have r6 : 0 ≤ v6 ∧ v6 ≤ 20 := by omega
  obtain ⟨v7, V7⟩ : ∃ v, fw u 7 = v := ⟨_, rfl⟩
  rw [V7] at c7
  simp only [fw] at V7
  have r7 : 0 ≤ v7 ∧ v7 ≤ 20 := by omega
  obtain ⟨v8, V8⟩ : ∃ v, fw u 8 = v := ⟨_, rfl⟩
  rw [V8] at c8
  simp only [fw] at V8
  have r8 : 0 ≤ v8 ∧ v8 ≤ 20 := by omega
  obtain ⟨v9, V9⟩ : ∃ v, fw u 9 = v := ⟨_, rfl⟩
  rw [V9] at c9
  simp only [fw] at V9
  have r9 : 0 ≤ v9 ∧ v9 ≤ 20 := by omega
  obtain ⟨v10, V10⟩ : ∃ v, fw u 10 = v := ⟨_, rfl⟩
  rw [V10] at c10
  simp only [fw] at V10
  have r10 : 0 ≤ v10 ∧ v10 ≤ 20 := by omega
  obtain ⟨v11, V11⟩ : ∃ v, fw u 11 = v := ⟨_, rfl⟩
  rw [V11] at c11
  simp only [fw] at V11
  have r11 : 0 ≤ v11 ∧ v11 ≤ 20 := by omega
  obtain ⟨v12, V12⟩ : ∃ v, fw u 12 = v := ⟨_, rfl⟩
  rw [V12] at c12
  simp only [fw] at V12
  have r12 : 0 ≤ v12 ∧ v12 ≤ 20 := by omega
  simp only [sumU] at hs
  have H1 := Lib.hid V1
  have H2 := Lib.hid V2
  have H3 := Lib.hid V3
  have H4 := Lib.hid V4
  have H5 := Lib.hid V5
  have H6 := Lib.hid V6
  have H7 := Lib.hid V7
  have H8 := Lib.hid V8
  have H9 := Lib.hid V9
  have H10 := Lib.hid V10
  have H11 := Lib.hid V11
  have H12 := Lib.hid V12
  have U0 := Lib.hid u0
  have U1 := Lib.hid u1
  have U2 := Lib.hid u2
  have U3 := Lib.hid u3
  have U4 := Lib.hid u4
  have U5 := Lib.hid u5
  have U6 := Lib.hid u6
  have U7 := Lib.hid u7
  have U8 := Lib.hid u8
  have U9 := Lib.hid u9
  have U10 := Lib.hid u10
  have U11 := Lib.hid u11
  have HS := Lib.hid hs
  clear V1 V2 V3 V4 V5 V6 V7 V8 V9 V10 V11 V12 u0 u1 u2 u3 u4 u5 u6 u7 u8 u9 u10 u11 hs h hu
  go_enter Try.func81, Try.ntmps81
  go_wp2
  refine wp_loop_rounds 5 ?_
  by_cases q8 : v8 ≤ b
  · have k8 : decide (v8 ≤ b) = true := by simpa using q8
    have w8 : wrap64 (b - v8) = b - v8 := by unfold wrap64; omega
    have B8 : 0 ≤ b - v8 ∧ b - v8 ≤ 12 := by omega
    have Q8 := Lib.hid q8
    clear q8
    rw [rounds_succ]
    go_wp2
    by_cases q12 : v12 ≤ b - v8
    · have k12 : decide (v12 ≤ b - v8) = true := by simpa using q12
      have w12 : wrap64 (b - v8 - v12) = b - v8 - v12 := by unfold wrap64; omega
      have B12 : 0 ≤ b - v8 - v12 ∧ b - v8 - v12 ≤ 12 := by omega
      have Q12 := Lib.hid q12
      clear q12
      rw [rounds_succ]
      go_wp2
      rw [rounds_succ]
      go_wp2
      rw [rounds_succ]
      go_wp2
      rw [rounds_succ]
      go_wp2
      go_ret
      exfalso
      have HS2 := HS.out
      have X1 := H1.out
      have X2 := H2.out
      have X3 := H3.out
      have X4 := H4.out
      have X5 := H5.out
      have X6 := H6.out
      have X7 := H7.out
      have X8 := H8.out
      have X9 := H9.out
      have X10 := H10.out
      have X11 := H11.out
      have X12 := H12.out
      have Y0 := U0.out
      have Y1 := U1.out
      have Y2 := U2.out
      have Y3 := U3.out
      have Y4 := U4.out
      have Y5 := U5.out
      have Y6 := U6.out
      have Y7 := U7.out
      have Y8 := U8.out
      have Y9 := U9.out
      have Y10 := U10.out
      have Y11 := U11.out
      have ZQ8 := Q8.out
      have ZQ12 := Q12.out
      omega
    · have k12 : decide (v12 ≤ b - v8) = false := by simpa using q12
      have Q12 := Lib.hid q12
      clear q12
      rw [rounds_succ]
      go_wp2
      by_cases q10 : v10 ≤ b - v8
      · have k10 : decide (v10 ≤ b - v8) = true := by simpa using q10
        have w10 : wrap64 (b - v8 - v10) = b - v8 - v10 := by unfold wrap64; omega
        have B10 : 0 ≤ b - v8 - v10 ∧ b - v8 - v10 ≤ 12 := by omega
        have Q10 := Lib.hid q10
        clear q10
        rw [rounds_succ]
        go_wp2
        by_cases q11 : v11 ≤ b - v8 - v10
        · have k11 : decide (v11 ≤ b - v8 - v10) = true := by simpa using q11
          have w11 : wrap64 (b - v8 - v10 - v11) = b - v8 - v10 - v11 := by unfold wrap64; omega
          have B11 : 0 ≤ b - v8 - v10 - v11 ∧ b - v8 - v10 - v11 ≤ 12 := by omega
          have Q11 := Lib.hid q11
          clear q11
          rw [rounds_succ]
          go_wp2
          rw [rounds_succ]
          go_wp2
          go_ret
          refine ⟨11, rfl, by omega, ?_, ?_, rfl⟩
          · have HS2 := HS.out
            have X1 := H1.out
            have X2 := H2.out
            have X3 := H3.out
            have X4 := H4.out
            have X5 := H5.out
            have X6 := H6.out
            have X7 := H7.out
            have X8 := H8.out
            have X9 := H9.out
            have X10 := H10.out
            have X11 := H11.out
            have X12 := H12.out
            have Y0 := U0.out
            have Y1 := U1.out
            have Y2 := U2.out
            have Y3 := U3.out
            have Y4 := U4.out
            have Y5 := U5.out
            have Y6 := U6.out
            have Y7 := U7.out
            have Y8 := U8.out
            have Y9 := U9.out
            have Y10 := U10.out
            have Y11 := U11.out
            have ZQ8 := Q8.out
            have ZQ12 := Q12.out
            have ZQ10 := Q10.out
            have ZQ11 := Q11.out
            omega
          · have HS2 := HS.out
            have X1 := H1.out
            have X2 := H2.out
            have X3 := H3.out
            have X4 := H4.out
            have X5 := H5.out
            have X6 := H6.out
            have X7 := H7.out
            have X8 := H8.out
            have X9 := H9.out
            have X10 := H10.out
            have X11 := H11.out
            have X12 := H12.out
            have Y0 := U0.out
            have Y1 := U1.out
            have Y2 := U2.out
            have Y3 := U3.out
            have Y4 := U4.out
            have Y5 := U5.out
            have Y6 := U6.out
            have Y7 := U7.out
            have Y8 := U8.out
            have Y9 := U9.out
            have Y10 := U10.out
            have Y11 := U11.out
            have ZQ8 := Q8.out
            have ZQ12 := Q12.out
            have ZQ10 := Q10.out
            have ZQ11 := Q11.out
            simp only [sumU]; omega
        · have k11 : decide (v11 ≤ b - v8 - v10) = false := by simpa using q11
          have Q11 := Lib.hid q11
          clear q11
          rw [rounds_succ]
          go_wp2
          rw [rounds_succ]
          go_wp2
          go_ret
          refine ⟨10, rfl, by omega, ?_, ?_, rfl⟩
          · have HS2 := HS.out
            have X1 := H1.out
            have X2 := H2.out
            have X3 := H3.out
            have X4 := H4.out
            have X5 := H5.out
            have X6 := H6.out
            have X7 := H7.out
            have X8 := H8.out
            have X9 := H9.out
            have X10 := H10.out
            have X11 := H11.out
            have X12 := H12.out
            have Y0 := U0.out
            have Y1 := U1.out
            have Y2 := U2.out
            have Y3 := U3.out
            have Y4 := U4.out
            have Y5 := U5.out
            have Y6 := U6.out
            have Y7 := U7.out
            have Y8 := U8.out
            have Y9 := U9.out
            have Y10 := U10.out
            have Y11 := U11.out
            have ZQ8 := Q8.out
            have ZQ12 := Q12.out
            have ZQ10 := Q10.out
            have ZQ11 := Q11.out
            omega
          · have HS2 := HS.out
            have X1 := H1.out
            have X2 := H2.out
            have X3 := H3.out
            have X4 := H4.out
            have X5 := H5.out
            have X6 := H6.out
            have X7 := H7.out
            have X8 := H8.out
            have X9 := H9.out
            have X10 := H10.out
            have X11 := H11.out
            have X12 := H12.out
            have Y0 := U0.out
            have Y1 := U1.out
            have Y2 := U2.out
            have Y3 := U3.out
            have Y4 := U4.out
            have Y5 := U5.out
            have Y6 := U6.out
            have Y7 := U7.out
            have Y8 := U8.out
            have Y9 := U9.out
            have Y10 := U10.out
            have Y11 := U11.out
            have ZQ8 := Q8.out
            have ZQ12 := Q12.out
            have ZQ10 := Q10.out
            have ZQ11 := Q11.out
            simp only [sumU]; omega
      · have k10 : decide (v10 ≤ b - v8) = false := by simpa using q10
        have Q10 := Lib.hid q10
        clear q10
        rw [rounds_succ]
        go_wp2
        by_cases q9 : v9 ≤ b - v8
        · have k9 : decide (v9 ≤ b - v8) = true := by simpa using q9
          have w9 : wrap64 (b - v8 - v9) = b - v8 - v9 := by unfold wrap64; omega
          have B9 : 0 ≤ b - v8 - v9 ∧ b - v8 - v9 ≤ 12 := by omega
          have Q9 := Lib.hid q9
          clear q9
          rw [rounds_succ]
          go_wp2
          rw [rounds_succ]
          go_wp2
          go_ret
          refine ⟨9, rfl, by omega, ?_, ?_, rfl⟩
          · have HS2 := HS.out
            have X1 := H1.out
            have X2 := H2.out
            have X3 := H3.out
            have X4 := H4.out
            have X5 := H5.out
            have X6 := H6.out
            have X7 := H7.out
            have X8 := H8.out
            have X9 := H9.out
            have X10 := H10.out
            have X11 := H11.out
            have X12 := H12.out
            have Y0 := U0.out
            have Y1 := U1.out
            have Y2 := U2.out
            have Y3 := U3.out
            have Y4 := U4.out
            have Y5 := U5.out
            have Y6 := U6.out
            have Y7 := U7.out
            have Y8 := U8.out
            have Y9 := U9.out
            have Y10 := U10.out
            have Y11 := U11.out
            have ZQ8 := Q8.out
            have ZQ12 := Q12.out
            have ZQ10 := Q10.out
            have ZQ9 := Q9.out
            omega
          · have HS2 := HS.out
            have X1 := H1.out
            have X2 := H2.out
            have X3 := H3.out
            have X4 := H4.out
            have X5 := H5.out
            have X6 := H6.out
            have X7 := H7.out
            have X8 := H8.out
            have X9 := H9.out
            have X10 := H10.out
            have X11 := H11.out
            have X12 := H12.out
            have Y0 := U0.out
            have Y1 := U1.out
            have Y2 := U2.out
            have Y3 := U3.out
            have Y4 := U4.out
            have Y5 := U5.out
            have Y6 := U6.out
            have Y7 := U7.out
            have Y8 := U8.out
            have Y9 := U9.out
            have Y10 := U10.out
            have Y11 := U11.out
            have ZQ8 := Q8.out
            have ZQ12 := Q12.out
            have ZQ10 := Q10.out
            have ZQ9 := Q9.out
            simp only [sumU]; omega
        · have k9 : decide (v9 ≤ b - v8) = false := by simpa using q9
          have Q9 := Lib.hid q9
          clear q9
          rw [rounds_succ]
          go_wp2
          rw [rounds_succ]
          go_wp2
          go_ret
          refine ⟨8, rfl, by omega, ?_, ?_, rfl⟩
          · have HS2 := HS.out
            have X1 := H1.out
            have X2 := H2.out
            have X3 := H3.out
            have X4 := H4.out
            have X5 := H5.out
            have X6 := H6.out
            have X7 := H7.out
            have X8 := H8.out
            have X9 := H9.out
            have X10 := H10.out
            have X11 := H11.out
            have X12 := H12.out
            have Y0 := U0.out
            have Y1 := U1.out
            have Y2 := U2.out
            have Y3 := U3.out
            have Y4 := U4.out
            have Y5 := U5.out
            have Y6 := U6.out
            have Y7 := U7.out
            have Y8 := U8.out
            have Y9 := U9.out
            have Y10 := U10.out
            have Y11 := U11.out
            have ZQ8 := Q8.out
            have ZQ12 := Q12.out
            have ZQ10 := Q10.out
            have ZQ9 := Q9.out
            omega
          · have HS2 := HS.out
            have X1 := H1.out
            have X2 := H2.out
            have X3 := H3.out
            have X4 := H4.out
            have X5 := H5.out
            have X6 := H6.out
            have X7 := H7.out
            have X8 := H8.out
            have X9 := H9.out
            have X10 := H10.out
            have X11 := H11.out
            have X12 := H12.out
            have Y0 := U0.out
            have Y1 := U1.out
            have Y2 := U2.out
            have Y3 := U3.out
            have Y4 := U4.out
            have Y5 := U5.out
            have Y6 := U6.out
            have Y7 := U7.out
            have Y8 := U8.out
            have Y9 := U9.out
            have Y10 := U10.out
            have Y11 := U11.out
            have ZQ8 := Q8.out
            have ZQ12 := Q12.out
            have ZQ10 := Q10.out
            have ZQ9 := Q9.out
            simp only [sumU]; omega
  · have k8 : decide (v8 ≤ b) = false := by simpa using q8
    have Q8 := Lib.hid q8
    clear q8
    rw [rounds_succ]
    go_wp2
    by_cases q4 : v4 ≤ b
    · have k4 : decide (v4 ≤ b) = true := by simpa using q4
      have w4 : wrap64 (b - v4) = b - v4 := by unfold wrap64; omega
      have B4 : 0 ≤ b - v4 ∧ b - v4 ≤ 12 := by omega
      have Q4 := Lib.hid q4
      clear q4
      rw [rounds_succ]
      go_wp2
      by_cases q6 : v6 ≤ b - v4
      · have k6 : decide (v6 ≤ b - v4) = true := by simpa using q6
        have w6 : wrap64 (b - v4 - v6) = b - v4 - v6 := by unfold wrap64; omega
        have B6 : 0 ≤ b - v4 - v6 ∧ b - v4 - v6 ≤ 12 := by omega
        have Q6 := Lib.hid q6
        clear q6
        rw [rounds_succ]
        go_wp2
        by_cases q7 : v7 ≤ b - v4 - v6
        · have k7 : decide (v7 ≤ b - v4 - v6) = true := by simpa using q7
          have w7 : wrap64 (b - v4 - v6 - v7) = b - v4 - v6 - v7 := by unfold wrap64; omega
          have B7 : 0 ≤ b - v4 - v6 - v7 ∧ b - v4 - v6 - v7 ≤ 12 := by omega
          have Q7 := Lib.hid q7
          clear q7
          rw [rounds_succ]
          go_wp2
          rw [rounds_succ]
          go_wp2
          go_ret
          refine ⟨7, rfl, by omega, ?_, ?_, rfl⟩
          · have HS2 := HS.out
            have X1 := H1.out
            have X2 := H2.out
            have X3 := H3.out
            have X4 := H4.out
            have X5 := H5.out
            have X6 := H6.out
            have X7 := H7.out
            have X8 := H8.out
            have X9 := H9.out
            have X10 := H10.out
            have X11 := H11.out
            have X12 := H12.out
            have Y0 := U0.out
            have Y1 := U1.out
            have Y2 := U2.out
            have Y3 := U3.out
            have Y4 := U4.out
            have Y5 := U5.out
            have Y6 := U6.out
            have Y7 := U7.out
            have Y8 := U8.out
            have Y9 := U9.out
            have Y10 := U10.out
            have Y11 := U11.out
            have ZQ8 := Q8.out
            have ZQ4 := Q4.out
            have ZQ6 := Q6.out
            have ZQ7 := Q7.out
            omega
          · have HS2 := HS.out
            have X1 := H1.out
            have X2 := H2.out
            have X3 := H3.out
            have X4 := H4.out
            have X5 := H5.out
            have X6 := H6.out
            have X7 := H7.out
            have X8 := H8.out
            have X9 := H9.out
            have X10 := H10.out
            have X11 := H11.out
            have X12 := H12.out
            have Y0 := U0.out
            have Y1 := U1.out
            have Y2 := U2.out
            have Y3 := U3.out
            have Y4 := U4.out
            have Y5 := U5.out
            have Y6 := U6.out
            have Y7 := U7.out
            have Y8 := U8.out
            have Y9 := U9.out
            have Y10 := U10.out
            have Y11 := U11.out
            have ZQ8 := Q8.out
            have ZQ4 := Q4.out
            have ZQ6 := Q6.out
            have ZQ7 := Q7.out
            simp only [sumU]; omega
        · have k7 : decide (v7 ≤ b - v4 - v6) = false := by simpa using q7
          have Q7 := Lib.hid q7
          clear q7
          rw [rounds_succ]
          go_wp2
          rw [rounds_succ]
          go_wp2
          go_ret
          refine ⟨6, rfl, by omega, ?_, ?_, rfl⟩
          · have HS2 := HS.out
            have X1 := H1.out
            have X2 := H2.out
            have X3 := H3.out
            have X4 := H4.out
            have X5 := H5.out
            have X6 := H6.out
            have X7 := H7.out
            have X8 := H8.out
            have X9 := H9.out
            have X10 := H10.out
            have X11 := H11.out
            have X12 := H12.out
            have Y0 := U0.out
            have Y1 := U1.out
            have Y2 := U2.out
            have Y3 := U3.out
            have Y4 := U4.out
            have Y5 := U5.out
            have Y6 := U6.out
            have Y7 := U7.out
            have Y8 := U8.out
            have Y9 := U9.out
            have Y10 := U10.out
            have Y11 := U11.out
            have ZQ8 := Q8.out
            have ZQ4 := Q4.out
            have ZQ6 := Q6.out
            have ZQ7 := Q7.out
            omega
          · have HS2 := HS.out
            have X1 := H1.out
            have X2 := H2.out
            have X3 := H3.out
            have X4 := H4.out
            have X5 := H5.out
            have X6 := H6.out
            have X7 := H7.out
            have X8 := H8.out
            have X9 := H9.out
            have X10 := H10.out
            have X11 := H11.out
            have X12 := H12.out
            have Y0 := U0.out
            have Y1 := U1.out
            have Y2 := U2.out
            have Y3 := U3.out
            have Y4 := U4.out
            have Y5 := U5.out
            have Y6 := U6.out
            have Y7 := U7.out
            have Y8 := U8.out
            have Y9 := U9.out
            have Y10 := U10.out
            have Y11 := U11.out
            have ZQ8 := Q8.out
            have ZQ4 := Q4.out
            have ZQ6 := Q6.out
            have ZQ7 := Q7.out
            simp only [sumU]; omega
      · have k6 : decide (v6 ≤ b - v4) = false := by simpa using q6
        have Q6 := Lib.hid q6
        clear q6
        rw [rounds_succ]
        go_wp2
        by_cases q5 : v5 ≤ b - v4
        · have k5 : decide (v5 ≤ b - v4) = true := by simpa using q5
          have w5 : wrap64 (b - v4 - v5) = b - v4 - v5 := by unfold wrap64; omega
          have B5 : 0 ≤ b - v4 - v5 ∧ b - v4 - v5 ≤ 12 := by omega
          have Q5 := Lib.hid q5
          clear q5
          rw [rounds_succ]
          go_wp2
          rw [rounds_succ]
          go_wp2
          go_ret
          refine ⟨5, rfl, by omega, ?_, ?_, rfl⟩
          · have HS2 := HS.out
            have X1 := H1.out
            have X2 := H2.out
            have X3 := H3.out
            have X4 := H4.out
            have X5 := H5.out
            have X6 := H6.out
            have X7 := H7.out
            have X8 := H8.out
            have X9 := H9.out
            have X10 := H10.out
            have X11 := H11.out
            have X12 := H12.out
            have Y0 := U0.out
            have Y1 := U1.out
            have Y2 := U2.out
            have Y3 := U3.out
            have Y4 := U4.out
            have Y5 := U5.out
            have Y6 := U6.out
            have Y7 := U7.out
            have Y8 := U8.out
            have Y9 := U9.out
            have Y10 := U10.out
            have Y11 := U11.out
            have ZQ8 := Q8.out
            have ZQ4 := Q4.out
            have ZQ6 := Q6.out
            have ZQ5 := Q5.out
            omega
          · have HS2 := HS.out
            have X1 := H1.out
            have X2 := H2.out
            have X3 := H3.out
            have X4 := H4.out
            have X5 := H5.out
            have X6 := H6.out
            have X7 := H7.out
            have X8 := H8.out
            have X9 := H9.out
            have X10 := H10.out
            have X11 := H11.out
            have X12 := H12.out
            have Y0 := U0.out
            have Y1 := U1.out
            have Y2 := U2.out
            have Y3 := U3.out
            have Y4 := U4.out
            have Y5 := U5.out
            have Y6 := U6.out
            have Y7 := U7.out
            have Y8 := U8.out
            have Y9 := U9.out
            have Y10 := U10.out
            have Y11 := U11.out
            have ZQ8 := Q8.out
            have ZQ4 := Q4.out
            have ZQ6 := Q6.out
            have ZQ5 := Q5.out
            simp only [sumU]; omega
        · have k5 : decide (v5 ≤ b - v4) = false := by simpa using q5
          have Q5 := Lib.hid q5
          clear q5
          rw [rounds_succ]
          go_wp2
          rw [rounds_succ]
          go_wp2
          go_ret
          refine ⟨4, rfl, by omega, ?_, ?_, rfl⟩
          · have HS2 := HS.out
            have X1 := H1.out
            have X2 := H2.out
            have X3 := H3.out
            have X4 := H4.out
            have X5 := H5.out
            have X6 := H6.out
            have X7 := H7.out
            have X8 := H8.out
            have X9 := H9.out
            have X10 := H10.out
            have X11 := H11.out
            have X12 := H12.out
            have Y0 := U0.out
            have Y1 := U1.out
            have Y2 := U2.out
            have Y3 := U3.out
            have Y4 := U4.out
            have Y5 := U5.out
            have Y6 := U6.out
            have Y7 := U7.out
            have Y8 := U8.out
            have Y9 := U9.out
            have Y10 := U10.out
            have Y11 := U11.out
            have ZQ8 := Q8.out
            have ZQ4 := Q4.out
            have ZQ6 := Q6.out
            have ZQ5 := Q5.out
            omega
          · have HS2 := HS.out
            have X1 := H1.out
            have X2 := H2.out
            have X3 := H3.out
            have X4 := H4.out
            have X5 := H5.out
            have X6 := H6.out
            have X7 := H7.out
            have X8 := H8.out
            have X9 := H9.out
            have X10 := H10.out
            have X11 := H11.out
            have X12 := H12.out
            have Y0 := U0.out
            have Y1 := U1.out
            have Y2 := U2.out
            have Y3 := U3.out
            have Y4 := U4.out
            have Y5 := U5.out
            have Y6 := U6.out
            have Y7 := U7.out
            have Y8 := U8.out
            have Y9 := U9.out
            have Y10 := U10.out
            have Y11 := U11.out
            have ZQ8 := Q8.out
            have ZQ4 := Q4.out
            have ZQ6 := Q6.out
            have ZQ5 := Q5.out
            simp only [sumU]; omega
    · have k4 : decide (v4 ≤ b) = false := by simpa using q4
      have Q4 := Lib.hid q4
      clear q4
      rw [rounds_succ]
      go_wp2
      by_cases q2 : v2 ≤ b
      · have k2 : decide (v2 ≤ b) = true := by simpa using q2
        have w2 : wrap64 (b - v2) = b - v2 := by unfold wrap64; omega
        have B2 : 0 ≤ b - v2 ∧ b - v2 ≤ 12 := by omega
        have Q2 := Lib.hid q2
        clear q2
        rw [rounds_succ]
        go_wp2
        by_cases q3 : v3 ≤ b - v2
        · have k3 : decide (v3 ≤ b - v2) = true := by simpa using q3
          have w3 : wrap64 (b - v2 - v3) = b - v2 - v3 := by unfold wrap64; omega
          have B3 : 0 ≤ b - v2 - v3 ∧ b - v2 - v3 ≤ 12 := by omega
          have Q3 := Lib.hid q3
          clear q3
          rw [rounds_succ]
          go_wp2
          rw [rounds_succ]
          go_wp2
          go_ret
          refine ⟨3, rfl, by omega, ?_, ?_, rfl⟩
          · have HS2 := HS.out
            have X1 := H1.out
            have X2 := H2.out
            have X3 := H3.out
            have X4 := H4.out
            have X5 := H5.out
            have X6 := H6.out
            have X7 := H7.out
            have X8 := H8.out
            have X9 := H9.out
            have X10 := H10.out
            have X11 := H11.out
            have X12 := H12.out
            have Y0 := U0.out
            have Y1 := U1.out
            have Y2 := U2.out
            have Y3 := U3.out
            have Y4 := U4.out
            have Y5 := U5.out
            have Y6 := U6.out
            have Y7 := U7.out
            have Y8 := U8.out
            have Y9 := U9.out
            have Y10 := U10.out
            have Y11 := U11.out
            have ZQ8 := Q8.out
            have ZQ4 := Q4.out
            have ZQ2 := Q2.out
            have ZQ3 := Q3.out
            omega
          · have HS2 := HS.out
            have X1 := H1.out
            have X2 := H2.out
            have X3 := H3.out
            have X4 := H4.out
            have X5 := H5.out
            have X6 := H6.out
            have X7 := H7.out
            have X8 := H8.out
            have X9 := H9.out
            have X10 := H10.out
            have X11 := H11.out
            have X12 := H12.out
            have Y0 := U0.out
            have Y1 := U1.out
            have Y2 := U2.out
            have Y3 := U3.out
            have Y4 := U4.out
            have Y5 := U5.out
            have Y6 := U6.out
            have Y7 := U7.out
            have Y8 := U8.out
            have Y9 := U9.out
            have Y10 := U10.out
            have Y11 := U11.out
            have ZQ8 := Q8.out
            have ZQ4 := Q4.out
            have ZQ2 := Q2.out
            have ZQ3 := Q3.out
            simp only [sumU]; omega
        · have k3 : decide (v3 ≤ b - v2) = false := by simpa using q3
          have Q3 := Lib.hid q3
          clear q3
          rw [rounds_succ]
          go_wp2
          rw [rounds_succ]
          go_wp2
          go_ret
          refine ⟨2, rfl, by omega, ?_, ?_, rfl⟩
          · have HS2 := HS.out
            have X1 := H1.out
            have X2 := H2.out
            have X3 := H3.out
            have X4 := H4.out
            have X5 := H5.out
            have X6 := H6.out
            have X7 := H7.out
            have X8 := H8.out
            have X9 := H9.out
            have X10 := H10.out
            have X11 := H11.out
            have X12 := H12.out
            have Y0 := U0.out
            have Y1 := U1.out
            have Y2 := U2.out
            have Y3 := U3.out
            have Y4 := U4.out
            have Y5 := U5.out
            have Y6 := U6.out
            have Y7 := U7.out
            have Y8 := U8.out
            have Y9 := U9.out
            have Y10 := U10.out
            have Y11 := U11.out
            have ZQ8 := Q8.out
            have ZQ4 := Q4.out
            have ZQ2 := Q2.out
            have ZQ3 := Q3.out
            omega
          · have HS2 := HS.out
            have X1 := H1.out
            have X2 := H2.out
            have X3 := H3.out
            have X4 := H4.out
            have X5 := H5.out
            have X6 := H6.out
            have X7 := H7.out
            have X8 := H8.out
            have X9 := H9.out
            have X10 := H10.out
            have X11 := H11.out
            have X12 := H12.out
            have Y0 := U0.out
            have Y1 := U1.out
            have Y2 := U2.out
            have Y3 := U3.out
            have Y4 := U4.out
            have Y5 := U5.out
            have Y6 := U6.out
            have Y7 := U7.out
            have Y8 := U8.out
            have Y9 := U9.out
            have Y10 := U10.out
            have Y11 := U11.out
            have ZQ8 := Q8.out
            have ZQ4 := Q4.out
            have ZQ2 := Q2.out
            have ZQ3 := Q3.out
            simp only [sumU]; omega
      · have k2 : decide (v2 ≤ b) = false := by simpa using q2
        have Q2 := Lib.hid q2
        clear q2
        rw [rounds_succ]
        go_wp2
        by_cases q1 : v1 ≤ b
        · have k1 : decide (v1 ≤ b) = true := by simpa using q1
          have w1 : wrap64 (b - v1) = b - v1 := by unfold wrap64; omega
          have B1 : 0 ≤ b - v1 ∧ b - v1 ≤ 12 := by omega
          have Q1 := Lib.hid q1
          clear q1
          rw [rounds_succ]
          go_wp2
          rw [rounds_succ]
          go_wp2
          go_ret
          refine ⟨1, rfl, by omega, ?_, ?_, rfl⟩
          · have HS2 := HS.out
            have X1 := H1.out
            have X2 := H2.out
            have X3 := H3.out
            have X4 := H4.out
            have X5 := H5.out
            have X6 := H6.out
            have X7 := H7.out
            have X8 := H8.out
            have X9 := H9.out
            have X10 := H10.out
            have X11 := H11.out
            have X12 := H12.out
            have Y0 := U0.out
            have Y1 := U1.out
            have Y2 := U2.out
            have Y3 := U3.out
            have Y4 := U4.out
            have Y5 := U5.out
            have Y6 := U6.out
            have Y7 := U7.out
            have Y8 := U8.out
            have Y9 := U9.out
            have Y10 := U10.out
            have Y11 := U11.out
            have ZQ8 := Q8.out
            have ZQ4 := Q4.out
            have ZQ2 := Q2.out
            have ZQ1 := Q1.out
            omega
          · have HS2 := HS.out
            have X1 := H1.out
            have X2 := H2.out
            have X3 := H3.out
            have X4 := H4.out
            have X5 := H5.out
            have X6 := H6.out
            have X7 := H7.out
            have X8 := H8.out
            have X9 := H9.out
            have X10 := H10.out
            have X11 := H11.out
            have X12 := H12.out
            have Y0 := U0.out
            have Y1 := U1.out
            have Y2 := U2.out
            have Y3 := U3.out
            have Y4 := U4.out
            have Y5 := U5.out
            have Y6 := U6.out
            have Y7 := U7.out
            have Y8 := U8.out
            have Y9 := U9.out
            have Y10 := U10.out
            have Y11 := U11.out
            have ZQ8 := Q8.out
            have ZQ4 := Q4.out
            have ZQ2 := Q2.out
            have ZQ1 := Q1.out
            simp only [sumU]; omega
        · have k1 : decide (v1 ≤ b) = false := by simpa using q1
          have Q1 := Lib.hid q1
          clear q1
          rw [rounds_succ]
          go_wp2
          rw [rounds_succ]
          go_wp2
          go_ret
          refine ⟨0, rfl, by omega, ?_, ?_, rfl⟩
          · have HS2 := HS.out
            have X1 := H1.out
            have X2 := H2.out
            have X3 := H3.out
            have X4 := H4.out
            have X5 := H5.out
            have X6 := H6.out
            have X7 := H7.out
            have X8 := H8.out
            have X9 := H9.out
            have X10 := H10.out
            have X11 := H11.out
            have X12 := H12.out
            have Y0 := U0.out
            have Y1 := U1.out
            have Y2 := U2.out
            have Y3 := U3.out
            have Y4 := U4.out
            have Y5 := U5.out
            have Y6 := U6.out
            have Y7 := U7.out
            have Y8 := U8.out
            have Y9 := U9.out
            have Y10 := U10.out
            have Y11 := U11.out
            have ZQ8 := Q8.out
            have ZQ4 := Q4.out
            have ZQ2 := Q2.out
            have ZQ1 := Q1.out
            omega
          · have HS2 := HS.out
            have X1 := H1.out
            have X2 := H2.out
            have X3 := H3.out
            have X4 := H4.out
            have X5 := H5.out
            have X6 := H6.out
            have X7 := H7.out
            have X8 := H8.out
            have X9 := H9.out
            have X10 := H10.out
            have X11 := H11.out
            have X12 := H12.out
            have Y0 := U0.out
            have Y1 := U1.out
            have Y2 := U2.out
            have Y3 := U3.out
            have Y4 := U4.out
            have Y5 := U5.out
            have Y6 := U6.out
            have Y7 := U7.out
            have Y8 := U8.out
            have Y9 := U9.out
            have Y10 := U10.out
            have Y11 := U11.out
            have ZQ8 := Q8.out
            have ZQ4 := Q4.out
            have ZQ2 := Q2.out
            have ZQ1 := Q1.out
            simp only [sumU]; omega

end Go.Proofs.Ytkonddifmonkcaa
