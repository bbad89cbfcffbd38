/- TripleOrders: the law. -/
import Derived.Test.YtanfodbpgpfjmaaTor
namespace Go.Proofs.Ytanfodbpgpfjmaa
open Go.RowKit
set_option linter.unusedVariables false

theorem law_FnExactTripleOrders (w : World) :
    Calls Try.prog 3 #[] w fun r w' => r = .returned (.bool true) ∧ Below w.heap.size w w' := by
  have hlen := tol_len 28
  obtain ⟨xs, hxs⟩ : ∃ xs, tol 28 = xs := ⟨_, rfl⟩
  have hS := fun W => sTripleOrders W
  have hI := fun W => iTripleOrders W
  rw [hxs] at hlen
  simp only [hxs] at hS hI
  have HS := Lib.hid hS
  have HI := Lib.hid hI
  clear hS hI hxs
  go_enter Try.func3, Try.ntmps3
  go_wp2_with (go_at_call 4; refine (HS.out _).mono ?_; rintro r w1 ⟨v0, rfl, i0, b0⟩; have I0 := Lib.hid i0; have B0 := Lib.hid b0; clear i0 b0)
  refine (HI.out _).mono ?_
  rintro r w2 ⟨v1, rfl, i1, b1⟩
  have I1 := Lib.hid i1
  have B1 := Lib.hid b1
  have I0' := Lib.hid (I0.out.below b1 (Nat.le_refl _))
  clear i1 b1
  go_wp2_with (go_at_call 6; refine (eq_same _ _ _ xs I1.out.at I0'.out.at).mono ?_; rintro r w3 ⟨rfl, n3, rfl⟩)
  refine (mark_own _ _ v1 xs 1 (I1.out.drewN n3) (by omega) (by omega)).mono ?_
  rintro r w4 ⟨rfl, j1, g4, s4⟩
  have J1 := Lib.hid j1
  have J0 := Lib.hid (Ints.mark_other (I0'.out.drewN n3) I1.out trivial I0.out (Nat.le_refl _) g4)
  have b4 := below_of_grown g4 (B := w1.heap.size) (by have := B1.out.size; simpa using this) (fun k hk => (World.ownsRow.lt I1.out k hk).1)
  have B4 := Lib.hid b4
  clear j1 g4 b4 s4
  go_wp2_with fail
  refine (held_marks _ v1 1 xs.length J1.out.at (by omega) (by omega)).mono ?_
  rintro r w5 ⟨rfl, rfl⟩
  go_wp2_with (go_at_call 5; refine (HI.out _).mono ?_; rintro r w6 ⟨v2, rfl, i2, b2⟩; have I2 := Lib.hid i2; have B2 := Lib.hid b2; clear i2 b2)
  refine (eq_same _ _ _ xs I2.out.at (J0.out.below B2.out (Nat.le_refl _)).at).mono ?_
  rintro r w7 ⟨rfl, n7, rfl⟩
  go_wp2_with fail
  refine (held_marks _ v1 1 xs.length (((J1.out.below B2.out (Nat.le_refl _)).drewN n7).at) (by omega) (by omega)).mono ?_
  rintro r w8 ⟨rfl, rfl⟩
  go_wp2
  go_ret
  exact ⟨rfl, below_law B0.out B1.out B4.out B2.out⟩
end Go.Proofs.Ytanfodbpgpfjmaa
