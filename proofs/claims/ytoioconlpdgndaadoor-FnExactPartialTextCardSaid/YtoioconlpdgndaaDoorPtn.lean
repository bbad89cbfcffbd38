/- PartialText: the program. -/
import Derived.Test.YtoioconlpdgndaaDoorRti
import Derived.Test.YtoioconlpdgndaaDoorPtm
import Derived.Test.YtoioconlpdgndaaDoorVpa
namespace Go.Proofs.YtoioconlpdgndaaDoor
open Go.RowKit
set_option linter.unusedVariables false
set_option linter.unusedSimpArgs false

set_option maxRecDepth 100000 in
set_option maxHeartbeats 2000000 in
theorem iPartialText (xss : List (List Int)) (hx : SmallLL xss) (W : World) (v : Value) (hv : RowsAt W v xss) (ht : Tab W) :
    Calls Tryd.prog 11 #[v] W fun e w' => e = .returned (.string (PartialText_0 xss)) ∧ Below W.heap.size W w' := by
  have HS := Lib.hid (iValidPartial xss hx W v hv)
  have e0 : ValidPartial_0 xss = ptB xss := rfl
  rw [e0] at HS
  clear e0
  have VN := Lib.hid (fun h => pt_no (xss := xss) h)
  have VY := Lib.hid (fun h => pt_yes (xss := xss) h)
  have HT := Lib.hid (fun V (b : Below W.heap.size W V) (h : ptB xss = true) => irowsText xss _ rfl V v (hv.below b (Nat.le_refl _)) (ptFacts (of_ptB h)) (ht.below b ht.pos))
  obtain ⟨z, hz⟩ : ∃ z, ptB xss = z := ⟨_, rfl⟩
  rw [hz] at HS VN VY
  simp only [hz] at HT
  clear hx hv hz ht
  cases z with
  | false =>
    have V := Lib.hid (VN.out rfl)
    go_enter Tryd.func11, Tryd.ntmps11
    go_wp2_with fail
    refine HS.out.mono ?_
    rintro e w1 ⟨rfl, b1⟩
    have B1 := Lib.hid b1
    clear b1
    go_wp2
    go_ret
    exact ⟨by rw [V.out]; rfl, B1.out⟩
  | true =>
    have V := Lib.hid (VY.out rfl)
    go_enter Tryd.func11, Tryd.ntmps11
    go_wp2_with fail
    refine HS.out.mono ?_
    rintro e w1 ⟨rfl, b1⟩
    have B1 := Lib.hid b1
    clear b1
    go_wp2_with fail
    refine (HT.out _ B1.out (by trivial)).mono ?_
    rintro e w2 ⟨rfl, b2⟩
    have B2 := Lib.hid (t_chain B1.out b2)
    clear b2
    go_wp2
    go_ret
    exact ⟨by rw [V.out]; rfl, B2.out⟩
end Go.Proofs.YtoioconlpdgndaaDoor
