/- Isotope: the exported functions of both sides. -/
import Derived.Test.YtkonddifmonkcaaIsm
namespace Go.Proofs.Ytkonddifmonkcaa
open Go.RowKit Go.Shelf
set_option linter.unusedVariables false

noncomputable def rpB (n : Nat) (xs : List Int) : Bool := decide (xs.length = n) && pmB xs
theorem rpB_rowD {n : Nat} {xss : List (List Int)} {i : Nat} : rpB n (xss.getD i []) = true ↔ rowD n xss i := by
  unfold rpB rowD
  rw [Bool.and_eq_true, decide_eq_true_iff]
theorem isoOk_eq (n : Nat) (rs cs ss : List Int) : isoOk n rs cs ss = (rpB n rs && (rpB n cs && rpB n ss)) := by
  unfold isoOk
  have e0 : rpB n rs = true ↔ rowD n [rs, cs, ss] 0 := rpB_rowD (xss := [rs, cs, ss]) (i := 0)
  have e1 : rpB n cs = true ↔ rowD n [rs, cs, ss] 1 := rpB_rowD (xss := [rs, cs, ss]) (i := 1)
  have e2 : rpB n ss = true ↔ rowD n [rs, cs, ss] 2 := rpB_rowD (xss := [rs, cs, ss]) (i := 2)
  cases h0 : rpB n rs with
  | false =>
    rw [Bool.false_and]
    exact hpB_false (x := 0) (by simp) (fun k => by rw [e0.2 k] at h0; cases h0)
  | true =>
    cases h1 : rpB n cs with
    | false =>
      rw [Bool.true_and, Bool.false_and]
      exact hpB_false (x := 1) (by simp) (fun k => by rw [e1.2 k] at h1; cases h1)
    | true =>
      cases h2 : rpB n ss with
      | false =>
        rw [Bool.true_and, Bool.true_and]
        exact hpB_false (x := 2) (by simp) (fun k => by rw [e2.2 k] at h2; cases h2)
      | true =>
        refine hpB_true fun x hx => ?_
        rcases (show x = 0 ∨ x = 1 ∨ x = 2 by simp at hx; omega) with rfl | rfl | rfl
        · exact e0.1 h0
        · exact e1.1 h1
        · exact e2.1 h2

set_option maxHeartbeats 1000000 in
theorem sPerm (w : World) (v : Value) (xs : List Int) (n : Nat) (hn : n ≤ 100) (hv : IntsC w v xs) :
    Calls Try.prog 71 #[v, .int .i64 n] w fun e w' => e = .returned (.bool (rpB n xs)) ∧ ∃ d, w' = w.drewN d := by
  have H := Lib.hid (sok w v xs hv)
  have hl := hv.1.1
  obtain ⟨a, c, rfl⟩ := hv.shape
  by_cases e : xs.length = n
  · have V : Hid (rpB n xs = pmB xs) := by unfold Hid rpB; rw [decide_eq_true e, Bool.true_and]
    rw [e] at H ⊢
    have t : ((n : Int) == (n : Int)) = true := by simp
    have t' : (n == n) = true := by simp
    obtain ⟨b, hb⟩ : ∃ b, pmB xs = b := ⟨_, rfl⟩
    rw [hb] at H V
    clear hv e hb hl
    go_enter Try.func71, Try.ntmps71
    go_wp2_with fail
    refine H.out.mono ?_
    rintro e w' ⟨rfl, d, rfl⟩
    go_wp2
    go_ret
    exact ⟨by rw [V.out]; rfl, _, rfl⟩
  · have V : Hid (rpB n xs = false) := by unfold Hid rpB; rw [decide_eq_false e, Bool.false_and]
    obtain ⟨l, hl'⟩ : ∃ l, xs.length = l := ⟨_, rfl⟩
    rw [hl'] at e hl ⊢
    have t : ((l : Int) == (n : Int)) = false := by simp; omega
    have t' : (l == n) = false := by simp [e]
    clear hv e hl' H
    go_enter Try.func71, Try.ntmps71
    go_wp2
    go_ret
    exact ⟨by rw [V.out]; rfl, 0, rfl⟩

theorem IsSq.rowLen {xss : List (List Int)} (h : IsSq xss) : ∀ x, x < xss.length → (xss.getD x []).length = xss.length := fun x hx => (h.row x hx).1

end Go.Proofs.Ytkonddifmonkcaa
