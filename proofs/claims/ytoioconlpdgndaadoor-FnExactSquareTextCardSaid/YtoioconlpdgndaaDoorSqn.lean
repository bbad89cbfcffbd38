/- SquareText: the program. -/
import Derived.Test.YtoioconlpdgndaaDoorRti
import Derived.Test.YtoioconlpdgndaaDoorTxm
namespace Go.Proofs.YtoioconlpdgndaaDoor
open Go.RowKit
set_option linter.unusedVariables false
set_option linter.unusedSimpArgs false

set_option maxRecDepth 100000 in
set_option maxHeartbeats 2000000 in
theorem iVsq (xss : List (List Int)) (W : World) (v : Value) (hv : RowsAt W v xss) :
    Calls Tryd.prog 16 #[v] W fun e w' => e = .returned (.bool (sqB xss)) ∧ Below W.heap.size W w' := by
  have H := Lib.hid (ilsq W v xss hv)
  obtain ⟨z, hz⟩ : ∃ z, sqB xss = z := ⟨_, rfl⟩
  rw [hz] at H ⊢
  clear hv hz
  go_enter Tryd.func16, Tryd.ntmps16
  go_wp2_with fail
  refine H.out.mono ?_
  rintro e w1 ⟨n, f, rfl, -, b1⟩
  have st := stores_newSq w1 (sqC n f)
  have B1 : Hid (Below W.heap.size W (w1.alloc (.cells (iar 101 (sqC n f)) 39))) := b1.alloc b1.size _
  clear b1
  go_wp2
  go_ret
  exact ⟨rfl, B1.out⟩

set_option maxRecDepth 100000 in
set_option maxHeartbeats 2000000 in
theorem iSquareText (xss : List (List Int)) (hx : SmallLL xss) (W : World) (v : Value) (hv : RowsAt W v xss) (ht : Tab W) :
    Calls Tryd.prog 8 #[v] W fun e w' => e = .returned (.string (SquareText_0 xss)) ∧ Below W.heap.size W w' := by
  have HS := Lib.hid (iVsq xss W v hv)
  have VN := Lib.hid (fun h => st_no (xss := xss) h)
  have VY := Lib.hid (fun h => st_yes (xss := xss) h)
  have HT := Lib.hid (fun V (b : Below W.heap.size W V) (h : sqB xss = true) => irowsText xss _ rfl V v (hv.below b (Nat.le_refl _)) (sqFacts (of_sqB h)) (ht.below b ht.pos))
  obtain ⟨z, hz⟩ : ∃ z, sqB xss = z := ⟨_, rfl⟩
  rw [hz] at HS VN VY
  simp only [hz] at HT
  clear hx hv hz ht
  cases z with
  | false =>
    have V := Lib.hid (VN.out rfl)
    go_enter Tryd.func8, Tryd.ntmps8
    go_wp2_with fail
    refine HS.out.mono ?_
    rintro e w1 ⟨rfl, b1⟩
    have B1 := Lib.hid b1
    clear b1
    go_wp2
    go_ret
    exact ⟨by rw [V.out]; rfl, B1.out⟩
  | true =>
    have V := Lib.hid (VY.out rfl)
    go_enter Tryd.func8, Tryd.ntmps8
    go_wp2_with fail
    refine HS.out.mono ?_
    rintro e w1 ⟨rfl, b1⟩
    have B1 := Lib.hid b1
    clear b1
    go_wp2_with fail
    refine (HT.out _ B1.out (by trivial)).mono ?_
    rintro e w2 ⟨rfl, b2⟩
    have B2 := Lib.hid (t_chain B1.out b2)
    clear b2
    go_wp2
    go_ret
    exact ⟨by rw [V.out]; rfl, B2.out⟩
end Go.Proofs.YtoioconlpdgndaaDoor
