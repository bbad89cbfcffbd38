/- PrimePower of both packages. -/
import Derived.Test.YtocjdjgfadaljaaPrime
namespace Go.Proofs.Ytocjdjgfadaljaa
open Go.RowKit
set_option linter.unusedVariables false

/-- What PrimePower answers when the factors are xs. -/
def ppVal (xs : List Int) (p k : Int) : Prop := ((xs = [] ∨ ¬ xs.getD 0 0 = xs.getD (xs.length - 1) 0) ∧ p = 0 ∧ k = 0) ∨ (xs ≠ [] ∧ xs.getD 0 0 = xs.getD (xs.length - 1) 0 ∧ p = xs.getD 0 0 ∧ k = xs.length)
theorem ppVal_eq {xs : List Int} {p k p' k' : Int} (h : ppVal xs p k) (h' : ppVal xs p' k') : p = p' ∧ k = k' := by
  rcases h with ⟨h, rfl, rfl⟩ | ⟨h, g, rfl, rfl⟩ <;> rcases h' with ⟨a, rfl, rfl⟩ | ⟨a, b, rfl, rfl⟩
  · exact ⟨rfl, rfl⟩
  · exact h.elim (fun h => absurd h a) (fun h => absurd b h)
  · exact a.elim (fun a => absurd a h) (fun a => absurd g a)
  · exact ⟨rfl, rfl⟩
def PpOut (n p k : Int) (w w' : World) : Prop := ppVal (facList n) p k ∧ Below w.heap.size w w'

set_option maxHeartbeats 800000 in
theorem ipp (n : Int) (w : World) :
    Calls Try.prog 19 #[.int .i64 n] w fun e w' => ∃ p k : Int, e = .returned (.tuple #[.int .i64 p, .int .i64 k]) ∧ PpOut n p k w w' := by
  have hlen := facList_length n
  obtain ⟨xs, hxs⟩ : ∃ xs, facList n = xs := ⟨_, rfl⟩
  have hF := fun W => ifacAll n W
  rw [hxs] at hlen
  simp only [hxs] at hF
  have HF := Lib.hid hF
  have HX := Lib.hid hxs
  clear hF hxs
  go_enter Try.func19, Try.ntmps19
  go_wp2_with fail
  refine (HF.out _).mono ?_
  rintro e w1 ⟨v, rfl, i1, b1⟩
  obtain ⟨a, cap, rfl, hc⟩ := i1.shape
  have B1 := Lib.hid b1
  clear b1 i1
  obtain ⟨len, hl⟩ : ∃ len, xs.length = len := ⟨_, rfl⟩
  have HL := Lib.hid hl
  rw [hl] at hlen hc ⊢
  have HC := Lib.hid hc
  clear hl hc
  by_cases h0 : len = 0
  · subst h0
    have V := Lib.hid (show ppVal xs 0 0 from .inl ⟨.inl (List.length_eq_zero_iff.1 HL.out), rfl, rfl⟩)
    go_wp2
    go_quiet (fail)
    go_wp2
    go_ret2
    exact ⟨_, _, rfl, by rw [HX.out]; exact V.out, below_drewN B1.out _⟩
  · obtain ⟨g, ha, hg, c0⟩ := HC.out 0 (by omega)
    obtain ⟨g', ha', hg', c1⟩ := HC.out (len - 1) (by omega)
    obtain rfl : g' = g := by rw [ha] at ha'; simp at ha'; exact ha'.symm
    obtain ⟨x, hx⟩ : ∃ x, xs.getD 0 0 = x := ⟨_, rfl⟩
    obtain ⟨y, hy⟩ : ∃ y, xs.getD (len - 1) 0 = y := ⟨_, rfl⟩
    rw [hx] at c0
    rw [hy] at c1
    have HX0 := Lib.hid hx
    have HY0 := Lib.hid hy
    subst ha
    clear hx hy ha' hg hg'
    have hT : ((len : Int) == 0) = false := by simp; omega
    have e1 : (0 : Int) < (len : Int) := by omega
    have e0 : 0 < len := by omega
    have e3 : IntKind.i64.wrap ((len : Int) - 1) = (len : Int) - 1 := IntWalk.i64_in _ (by omega)
    have e4 : ((len : Int) - 1).toNat = len - 1 := by omega
    have e5 : 1 ≤ (len : Int) := by omega
    have e6 : (len : Int) - 1 < (len : Int) := by omega
    have e7 : (0 : Int) ≤ (len : Int) - 1 := by omega
    by_cases hxy : x = y
    · have hE : (x != y) = false := by simpa using hxy
      have V := Lib.hid (show ppVal xs x len from .inr ⟨by intro h; rw [h] at HL; have := HL.out; simp at this; omega, by rw [HL.out, HX0.out, HY0.out]; exact hxy, HX0.out.symm, by rw [HL.out]⟩)
      clear hxy h0
      go_wp2
      go_quiet (fail)
      go_wp2
      go_ret2
      exact ⟨_, _, rfl, by rw [HX.out]; exact V.out, below_drewN B1.out _⟩
    · have hE : (x != y) = true := by simpa using hxy
      have V := Lib.hid (show ppVal xs 0 0 from .inl ⟨.inr (by rw [HL.out, HX0.out, HY0.out]; exact hxy), rfl, rfl⟩)
      clear hxy h0
      go_wp2
      go_quiet (fail)
      go_wp2
      go_ret2
      exact ⟨_, _, rfl, by rw [HX.out]; exact V.out, below_drewN B1.out _⟩


end Go.Proofs.Ytocjdjgfadaljaa
