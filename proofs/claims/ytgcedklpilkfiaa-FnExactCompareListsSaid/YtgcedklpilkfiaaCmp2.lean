/- CompareLists of the program, and the law. -/
import Derived.Test.YtgcedklpilkfiaaCmp
namespace Go.Proofs.Ytgcedklpilkfiaa
open Go.RowKit
set_option linter.unusedVariables false

set_option maxHeartbeats 800000 in
theorem icmp (w : World) (u v : Value) (xs ys : List Int) (hu : IntsAt w u xs) (hv : IntsAt w v ys) :
    Calls Try.prog 18 #[u, v] w fun e w' => e = .returned (.int .i64 (cmpL xs ys)) ∧ ∃ k, w' = w.drewN k := by
  obtain ⟨a, cap, rfl, hl, hc⟩ := hu.shape
  obtain ⟨a', cap', rfl, hl', hc'⟩ := hv.shape
  have HC := Lib.hid hc
  have HC' := Lib.hid hc'
  obtain ⟨m, hm⟩ : ∃ m, xs.length = m := ⟨_, rfl⟩
  obtain ⟨n, hn⟩ : ∃ n, ys.length = n := ⟨_, rfl⟩
  have HM := Lib.hid hm
  have HN := Lib.hid hn
  rw [hm] at hl ⊢
  rw [hn] at hl' ⊢
  clear hm hn hc hc' hu hv
  go_enter Try.func18, Try.ntmps18
  go_wp2
  go_loopw [5] (fun i wr => ∃ j : Nat, j ≤ m ∧ j ≤ n ∧ i = .int .i64 j ∧ Hid (cmpL (xs.drop j) (ys.drop j) = cmpL xs ys) ∧ ∃ d, wr = w.drewN d) (fun i _ => m - (intOf i).toNat)
  case atStart => exact ⟨0, Nat.zero_le _, Nat.zero_le _, rfl, rfl, 0, rfl⟩
  case round =>
    obtain ⟨j, hj, hj', rfl, hr, d, rfl⟩ := hrel
    by_cases hlt : j < m
    · by_cases hlt' : j < n
      · obtain ⟨x, hx⟩ : ∃ x, xs.getD j 0 = x := ⟨_, rfl⟩
        obtain ⟨y, hy⟩ : ∃ y, ys.getD j 0 = y := ⟨_, rfl⟩
        obtain ⟨g, off, ha, g1⟩ := HC.out j (by rw [HM.out]; exact hlt)
        obtain ⟨g', off', ha', g1'⟩ := HC'.out j (by rw [HN.out]; exact hlt')
        rw [hx] at g1
        rw [hy] at g1'
        have HX := Lib.hid hx
        have HY := Lib.hid hy
        subst ha ha'
        have i1 : (0 : Int) ≤ (j : Int) := by omega
        have i2 : (j : Int) < (m : Int) := by omega
        have i3 : (j : Int) < (n : Int) := by omega
        clear hx hy
        obtain ⟨c, hc⟩ : ∃ c, cmp3 x y = c := ⟨_, rfl⟩
        have K : ∀ W, Calls Try.prog 22 #[.int .i64 x, .int .i64 y] W fun e w' => e = .returned (.int .i64 c) ∧ w' = W := fun W => by rw [← hc]; exact cmp_int x y W
        by_cases h1 : x < y
        · have V := Lib.hid (cmp_lt hr.out (by rw [HM.out]; exact hlt) (by rw [HN.out]; exact hlt') (by rw [HX.out, HY.out]; exact h1))
          obtain rfl : c = -1 := by rw [← hc]; exact if_pos h1
          have HK := Lib.hid K
          clear K hc h1
          go_wp2
          go_quiet ((go_at_call 22; first | exact Calls.quiet_of_same (HK.out _) | exact quiet_same2 (HK.out _)))
          go_wp2
          go_ret
          exact ⟨ret_i _ _ V.out.symm, _, by first | rfl | exact World.drewN_drewN _ _ _⟩
        · by_cases h2 : y < x
          · have V := Lib.hid (cmp_gt hr.out (by rw [HM.out]; exact hlt) (by rw [HN.out]; exact hlt') (by rw [HX.out, HY.out]; exact h2))
            obtain rfl : c = 1 := by rw [← hc]; unfold cmp3; rw [if_neg h1, if_pos h2]
            have HK := Lib.hid K
            clear K hc h1 h2
            go_wp2
            go_quiet ((go_at_call 22; first | exact Calls.quiet_of_same (HK.out _) | exact quiet_same2 (HK.out _)))
            go_wp2
            go_ret
            exact ⟨ret_i _ _ V.out.symm, _, by first | rfl | exact World.drewN_drewN _ _ _⟩
          · have V := Lib.hid (cmp_eq hr.out (by rw [HM.out]; exact hlt) (by rw [HN.out]; exact hlt') (by rw [HX.out, HY.out]; omega))
            obtain rfl : c = 0 := by rw [← hc]; unfold cmp3; rw [if_neg h1, if_neg h2]
            have HK := Lib.hid K
            clear K hc h1 h2
            go_wp2
            go_quiet ((go_at_call 22; first | exact Calls.quiet_of_same (HK.out _) | exact quiet_same2 (HK.out _)))
            go_wp2
            go_roundw
            case rel => exact ⟨j + 1, by omega, by omega, by go_num, V, _, rfl⟩
            case measure => simp [intOf]; omega
      · have V := Lib.hid (cmp_end hr.out (by rw [HM.out]; exact hj) (by rw [HN.out]; exact hj') (.inr (by have := HN.out; omega)))
        have V' := Lib.hid (show cmp3 (m : Int) (n : Int) = cmpL xs ys by rw [V.out, HM.out, HN.out])
        go_wp2_with (go_at_call 23; refine (cmp_len _ _ _).mono ?_; rintro e w' ⟨rfl, rfl⟩)
        go_ret
        exact ⟨ret_i _ _ V'.out, _, rfl⟩
    · have V := Lib.hid (cmp_end hr.out (by rw [HM.out]; exact hj) (by rw [HN.out]; exact hj') (.inl (by have := HM.out; omega)))
      have V' := Lib.hid (show cmp3 (m : Int) (n : Int) = cmpL xs ys by rw [V.out, HM.out, HN.out])
      go_wp2_with (go_at_call 23; refine (cmp_len _ _ _).mono ?_; rintro e w' ⟨rfl, rfl⟩)
      go_ret
      exact ⟨ret_i _ _ V'.out, _, rfl⟩

theorem icompare (w : World) (u v : Value) (xs ys : List Int) (hu : IntsAt w u xs) (hv : IntsAt w v ys) :
    Calls Try.prog 11 #[u, v] w fun e w' => e = .returned (.int .i64 (cmpL xs ys)) ∧ ∃ k, w' = w.drewN k := by
  have HU := Lib.hid hu
  have HV := Lib.hid hv
  clear hu hv
  go_enter Try.func11, Try.ntmps11
  go_wp2_with fail
  refine (icmp _ u v xs ys HU.out HV.out).mono ?_
  rintro e w' ⟨rfl, k, rfl⟩
  go_wp2
  go_ret
  exact ⟨rfl, k, rfl⟩

theorem law_FnExactCompareLists (a : Option Addr) (len cap : Nat) (zs : List Int) (b : Option Addr) (len' cap' : Nat) (zs' : List Int) (w : World) (h : IsRow .i64 w a len cap zs) (h' : IsRow .i64 w b len' cap' zs') :
    Calls Try.prog 4 #[.slice a len cap, .slice b len' cap'] w fun r w' => r = .returned (.bool true) ∧ Below w.heap.size w w' := by
  obtain ⟨hat, hlen⟩ := h.at
  obtain ⟨hat', hlen'⟩ := h'.at
  by_cases hbig : 1048576 < len
  · clear h hat hlen h' hat' hlen'
    go_enter Try.func4, Try.ntmps4
    go_wp2
    go_ret
    exact ⟨rfl, Below.refl _ _⟩
  by_cases hbig' : 1048576 < len'
  · clear h hat hlen h' hat' hlen'
    go_enter Try.func4, Try.ntmps4
    go_wp2
    go_ret
    exact ⟨rfl, Below.refl _ _⟩
  obtain ⟨xs, hxs⟩ : ∃ xs, zs.take len = xs := ⟨_, rfl⟩
  obtain ⟨ys, hys⟩ : ∃ ys, zs'.take len' = ys := ⟨_, rfl⟩
  rw [hxs] at hat hlen
  rw [hys] at hat' hlen'
  have hl : xs.length ≤ 1048576 := by omega
  have hl' : ys.length ≤ 1048576 := by omega
  have A := Lib.hid hat
  have A' := Lib.hid hat'
  clear h hat hlen hxs h' hat' hlen' hys
  go_enter Try.func4, Try.ntmps4
  go_wp2_with fail
  refine (copy_any _ _ xs A.out hl).mono ?_
  rintro r w1 ⟨v1, rfl, i1, b1⟩
  have I1 := Lib.hid i1
  have B1 := Lib.hid b1
  have A1' := Lib.hid (A'.out.below b1 (Nat.le_refl _))
  clear i1 b1
  go_wp2_with fail
  refine (copy_any _ _ ys A1'.out hl').mono ?_
  rintro r w2 ⟨v2, rfl, i2, b2⟩
  have I2 := Lib.hid i2
  have B2 := Lib.hid (B1.out.trans (b2.mono B1.out.size))
  have I1' := Lib.hid (I1.out.below b2 (Nat.le_refl _))
  clear i2 b2
  go_wp2_with fail
  refine (scmp _ v1 v2 xs ys I1'.out.at I2.out.at).mono ?_
  rintro r w3 ⟨rfl, k3, rfl⟩
  have B3 := Lib.hid (below_drewN B2.out k3)
  go_wp2_with fail
  refine (copy_any _ _ xs (A.out.below B3.out (Nat.le_refl _)) hl).mono ?_
  rintro r w4 ⟨v4, rfl, i4, b4⟩
  have I4 := Lib.hid i4
  have B4 := Lib.hid (B3.out.trans (b4.mono B3.out.size))
  clear i4 b4
  go_wp2_with fail
  refine (copy_any _ _ ys (A'.out.below B4.out (Nat.le_refl _)) hl').mono ?_
  rintro r w5 ⟨v5, rfl, i5, b5⟩
  have I5 := Lib.hid i5
  have B5 := Lib.hid (B4.out.trans (b5.mono B4.out.size))
  have I4' := Lib.hid (I4.out.below b5 (Nat.le_refl _))
  clear i5 b5
  go_wp2_with fail
  refine (icompare _ v4 v5 xs ys I4'.out.at I5.out.at).mono ?_
  rintro r w6 ⟨rfl, k6, rfl⟩
  have B6 := Lib.hid (below_drewN B5.out k6)
  go_wp2_with fail
  refine (copy_any _ _ xs (A.out.below B6.out (Nat.le_refl _)) hl).mono ?_
  rintro r w7 ⟨v7, rfl, i7, b7⟩
  have I7 := Lib.hid i7
  have B7 := Lib.hid (B6.out.trans (b7.mono B6.out.size))
  have I4'' := Lib.hid ((I4'.out.drewN k6).below b7 (Nat.le_refl _))
  have I5' := Lib.hid ((I5.out.drewN k6).below b7 (Nat.le_refl _))
  clear i7 b7
  go_wp2_with fail
  refine (eq_same _ _ _ xs I4''.out.at I7.out.at).mono ?_
  rintro r w8 ⟨rfl, k8, rfl⟩
  have B8 := Lib.hid (below_drewN B7.out k8)
  go_wp2_with fail
  refine (copy_any _ _ ys (A'.out.below B8.out (Nat.le_refl _)) hl').mono ?_
  rintro r w9 ⟨v9, rfl, i9, b9⟩
  have I9 := Lib.hid i9
  have B9 := Lib.hid (B8.out.trans (b9.mono B8.out.size))
  have I5'' := Lib.hid ((I5'.out.drewN k8).below b9 (Nat.le_refl _))
  clear i9 b9
  go_wp2_with fail
  refine (eq_same _ _ _ ys I5''.out.at I9.out.at).mono ?_
  rintro r w10 ⟨rfl, k10, rfl⟩
  go_wp2
  go_ret
  exact ⟨rfl, below_drewN B9.out _⟩
end Go.Proofs.Ytgcedklpilkfiaa
