/- UnrankPermutation: the model's exported function. -/
import Derived.Test.YtkenmjdfpieagaaSun
import Derived.Test.YtkenmjdfpieagaaIun
namespace Go.Proofs.Ytkenmjdfpieagaa
open Go.RowKit
set_option linter.unusedVariables false

theorem sMin12 (n : Nat) (hn : n ≤ 12) (w : World) :
    Calls Try.prog 53 #[.int .i64 n, .int .i64 12] w fun e w' => e = .returned (.int .i64 n) ∧ w' = w := by
  by_cases c : n < 12
  · have t : decide ((n : Int) < 12) = true := decide_eq_true (by omega)
    have t' : decide (n < 12) = true := decide_eq_true c
    clear c
    go_enter Try.func53, Try.ntmps53
    go_wp2
    go_ret
    exact ⟨rfl, rfl⟩
  · obtain rfl : n = 12 := by omega
    clear c
    go_enter Try.func53, Try.ntmps53
    go_wp2
    go_ret
    exact ⟨rfl, rfl⟩

set_option maxRecDepth 100000 in
set_option maxHeartbeats 2000000 in
theorem sUnrankPermutation (n r : Int) (hn : I64 n) (hr : I64 r) (W : World) :
    Calls Try.prog 31 #[.int .i64 n, .int .i64 r] W fun e w' => ∃ u, e = .returned (.tuple #[u, .int .i64 (UnrankPermutation_1 n r)]) ∧ IntsAt w' u (UnrankPermutation_0 n r) ∧ Below W.heap.size W w' := by
  by_cases h : 0 ≤ n ∧ n ≤ 12
  case neg =>
    have V := Lib.hid (Unr_out (n := n) (r := r) (fun k => h ⟨k.1, k.2.1⟩))
    have HI := Lib.hid (in_no' n 0 12 W (by omega))
    clear h
    go_enter Try.func31, Try.ntmps31
    go_wp2_with fail
    refine HI.out.mono ?_
    rintro e w1 ⟨rfl, rfl⟩
    go_wp2
    go_ret2
    exact ⟨_, by rw [V.out.2]; rfl, by rw [V.out.1]; exact nilAt _, Below.refl _ _⟩
  obtain ⟨m, rfl⟩ : ∃ m : Nat, n = m := ⟨n.toNat, by omega⟩
  have m12 : m ≤ 12 := by omega
  have HI := Lib.hid (in_yes' (m : Int) 0 12 W (by omega) (by omega))
  have HM := Lib.hid (fun W => sMin12 m m12 W)
  have HF := Lib.hid (fun W => sfact m m12 W)
  have f1 := fct_pos m
  have f2 := fct12 m12
  by_cases k : 0 ≤ r ∧ r < (fct m : Nat)
  · obtain ⟨q, rfl⟩ : ∃ q : Nat, r = q := ⟨r.toNat, by omega⟩
    have kq : q < fct m := by omega
    have V := Lib.hid (Unr_ok m12 kq)
    have HU := Lib.hid (fun W => sUnr m q m12 kq W)
    obtain ⟨F, hF⟩ : ∃ F, fct m = F := ⟨_, rfl⟩
    rw [hF] at HF f1 f2 kq
    have HI2 := Lib.hid (fun W => in_yes' (q : Int) 0 ((F : Int) - 1) W (by omega) (by omega))
    have w3 := IntWalk.i64_in ((F : Int) - 1) (by omega)
    clear h k hF f1 f2 kq
    go_enter Try.func31, Try.ntmps31
    go_wp2_with fail
    refine HI.out.mono ?_
    rintro e w1 ⟨rfl, rfl⟩
    go_wp2_with fail
    refine (HM.out _).mono ?_
    rintro e w2 ⟨rfl, rfl⟩
    go_wp2_with fail
    refine (HF.out _).mono ?_
    rintro e w3 ⟨rfl, rfl⟩
    go_wp2_with fail
    refine (HI2.out _).mono ?_
    rintro e w4 ⟨rfl, rfl⟩
    go_wp2_with fail
    refine (HU.out _).mono ?_
    rintro e w5 ⟨u, rfl, u5, b5⟩
    have U5 := Lib.hid u5.at
    have B5 := Lib.hid b5
    clear u5 b5
    go_wp2
    go_ret2
    exact ⟨_, by rw [V.out.2]; rfl, by rw [V.out.1]; exact U5.out, B5.out⟩
  · have V : Hid (UnrankPermutation_0 m r = [] ∧ UnrankPermutation_1 m r = 2) := by
      by_cases c : 0 ≤ r
      · obtain ⟨q, rfl⟩ : ∃ q : Nat, r = q := ⟨r.toNat, by omega⟩
        exact Unr_far (by omega)
      · exact Unr_out (fun k => c k.2.2)
    obtain ⟨F, hF⟩ : ∃ F, fct m = F := ⟨_, rfl⟩
    rw [hF] at HF f1 f2 k
    have HI2 := Lib.hid (fun W => in_no' r 0 ((F : Int) - 1) W (by omega))
    have w3 := IntWalk.i64_in ((F : Int) - 1) (by omega)
    clear h k hF f1 f2
    go_enter Try.func31, Try.ntmps31
    go_wp2_with fail
    refine HI.out.mono ?_
    rintro e w1 ⟨rfl, rfl⟩
    go_wp2_with fail
    refine (HM.out _).mono ?_
    rintro e w2 ⟨rfl, rfl⟩
    go_wp2_with fail
    refine (HF.out _).mono ?_
    rintro e w3 ⟨rfl, rfl⟩
    go_wp2_with fail
    refine (HI2.out _).mono ?_
    rintro e w4 ⟨rfl, rfl⟩
    go_wp2
    go_ret2
    exact ⟨_, by rw [V.out.2]; rfl, by rw [V.out.1]; exact nilAt _, Below.refl _ _⟩
end Go.Proofs.Ytkenmjdfpieagaa
