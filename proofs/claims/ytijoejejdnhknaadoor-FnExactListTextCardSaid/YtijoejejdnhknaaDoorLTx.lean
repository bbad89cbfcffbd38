/- ListText: the law. -/
import Derived.Test.YtijoejejdnhknaaDoorTxt
import Derived.Test.YtijoejejdnhknaaDoorSep
namespace Go.Proofs.YtijoejejdnhknaaDoor
open Go.RowKit Go.ChangeShapes Go.WideShapes
set_option linter.unusedVariables false

set_option maxHeartbeats 2000000 in
theorem law_FnExactListText (a : Option Addr) (la ca : Nat) (za : List Int) (w : World) (h : IsRow .i64 w a la ca za) (ht : PowTab w) :
    Calls Tryd.prog 6 #[.slice a la ca] w fun r w' => r = .returned (.bool true) ∧ Below w.heap.size w w' := by
  obtain ⟨hat, hlen⟩ := h.at
  by_cases hbig : 1048576 < la
  · clear h hat hlen
    go_enter Tryd.func6, Tryd.ntmps6
    go_wp2
    go_ret
    exact ⟨rfl, Below.refl _ _⟩
  obtain ⟨xs, hxs⟩ : ∃ xs, za.take la = xs := ⟨_, rfl⟩
  rw [hxs] at hat hlen
  have hl : xs.length ≤ 1048576 := by omega
  have A := Lib.hid hat
  have TB := Lib.hid ht
  have HS := Lib.hid (fun v W hv => slist xs v W hv)
  have HI := Lib.hid (fun v W hv hp => ilist xs v W hv hp)
  obtain ⟨d, hd⟩ : ∃ d, ltV xs = d := ⟨_, rfl⟩
  simp only [hd] at HS HI
  have t : (d.toList != d.toList) = false := by simp
  have t1 : decide ((1048576 : Int) < (la : Int)) = false := by simp; omega
  clear h hat hlen hxs hd ht hbig
  go_enter Tryd.func6, Tryd.ntmps6
  go_wp2_with fail
  refine (copy_any _ _ xs A.out hl).mono ?_
  rintro r w1 ⟨v1, rfl, i1, b1⟩
  have I1 := Lib.hid i1
  have T1 := Lib.hid b1
  clear i1 b1
  go_wp2_with fail
  refine (HS.out _ _ I1.out.at).mono ?_
  rintro r w2 ⟨rfl, b2⟩
  have T2 := Lib.hid (t_step T1.out b2)
  clear b2
  go_wp2_with fail
  refine (copy_any _ _ xs (A.out.below T2.out (Nat.le_refl _)) hl).mono ?_
  rintro r w3 ⟨v3, rfl, i3, b3⟩
  have I3 := Lib.hid i3
  have T3 := Lib.hid (t_step T2.out b3)
  clear i3 b3
  go_wp2_with fail
  refine (HI.out _ _ I3.out.at (TB.out.below T3.out TB.out.pos)).mono ?_
  rintro r w4 ⟨rfl, b4⟩
  have I34 := Lib.hid (I3.out.below b4 (Nat.le_refl _))
  have T4 := Lib.hid (t_step T3.out b4)
  clear b4
  go_wp2_with fail
  refine (copy_any _ _ xs (A.out.below T4.out (Nat.le_refl _)) hl).mono ?_
  rintro r w5 ⟨v5, rfl, i5, b5⟩
  have I5 := Lib.hid i5
  have I35 := Lib.hid (I34.out.below b5 (Nat.le_refl _))
  have T5 := Lib.hid (t_step T4.out b5)
  clear i5 b5
  go_wp2_with fail
  refine (eq_same _ _ _ xs I35.out.at I5.out.at).mono ?_
  rintro r w6 ⟨rfl, k6, rfl⟩
  go_wp2
  go_ret
  exact ⟨rfl, Go.below_drewN T5.out k6⟩
end Go.Proofs.YtijoejejdnhknaaDoor
