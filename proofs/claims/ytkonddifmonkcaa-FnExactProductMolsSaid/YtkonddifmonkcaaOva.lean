/- Two squares over one another: the numbers. -/
import Derived.Test.YtkonddifmonkcaaPrd
namespace Go.Proofs.Ytkonddifmonkcaa
open Go.RowKit Go.Shelf
set_option linter.unusedVariables false

def overF (n : Nat) (f g : Nat → Nat → Int) : Nat → Nat → Int := fun x y => (n : Int) * f x y + g x y
noncomputable def Superpose_0 (xss yss : List (List Int)) : List (List Int) :=
  if (sqB xss = true ∧ sqB yss = true) ∧ xss.length = yss.length then gridL xss.length xss.length (overF xss.length (cellF xss) (cellF yss)) else []
noncomputable def Superpose_1 (xss yss : List (List Int)) : Int := if sqB xss = true ∧ sqB yss = true then if xss.length = yss.length then 0 else 2 else 1
theorem Sup_bad {xss yss : List (List Int)} (h : ¬ (sqB xss = true ∧ sqB yss = true)) : Superpose_0 xss yss = [] ∧ Superpose_1 xss yss = 1 := by
  unfold Superpose_0 Superpose_1
  rw [if_neg (fun k => h k.1), if_neg h]; exact ⟨rfl, rfl⟩
theorem Sup_far {xss yss : List (List Int)} (h : sqB xss = true ∧ sqB yss = true) (k : ¬ xss.length = yss.length) : Superpose_0 xss yss = [] ∧ Superpose_1 xss yss = 2 := by
  unfold Superpose_0 Superpose_1
  rw [if_neg (fun q => k q.2), if_pos h, if_neg k]; exact ⟨rfl, rfl⟩
theorem Sup_ok {xss yss : List (List Int)} (h : sqB xss = true ∧ sqB yss = true) (k : xss.length = yss.length) : Superpose_0 xss yss = gridL xss.length xss.length (overF xss.length (cellF xss) (cellF yss)) ∧ Superpose_1 xss yss = 0 := by
  unfold Superpose_0 Superpose_1
  rw [if_pos ⟨h, k⟩, if_pos h, if_pos k]; exact ⟨rfl, rfl⟩
theorem lenSuperpose_0 (xss yss : List (List Int)) (hx : SmallLL xss) (hy : SmallLL yss) : (Superpose_0 xss yss).length + tot (Superpose_0 xss yss) ≤ 2000000 := by
  by_cases h : sqB xss = true ∧ sqB yss = true
  · by_cases k : xss.length = yss.length
    · have := (of_sqB h.1).hi
      rw [(Sup_ok h k).1, gridL_length, tot_gridL]
      have : xss.length * xss.length ≤ 10 * 10 := Nat.mul_le_mul this this
      omega
    · rw [(Sup_far h k).1]; decide
  · rw [(Sup_bad h).1]; decide
theorem over_in {n : Nat} {f g : Nat → Nat → Int} (hf : InSq n f) (hg : InSq n g) {x y : Nat} (hx : x < n) (hy : y < n) : 0 ≤ overF n f g x y ∧ overF n f g x y < (n : Int) * n := by
  have h1 := hf x y hx hy
  have h2 := hg x y hx hy
  unfold overF
  have a : 0 ≤ (n : Int) * f x y := Int.mul_nonneg (by omega) h1.1
  have b : (n : Int) * f x y ≤ (n : Int) * ((n : Int) - 1) := Int.mul_le_mul_of_nonneg_left (by omega) (by omega)
  rw [Int.mul_sub, Int.mul_one] at b
  omega
/-- Numbers all of which differ. -/
def Dist (m : Nat) (G : Nat → Int) : Prop := ∀ a b, a < b → b < m → G a ≠ G b
noncomputable def distB (m : Nat) (G : Nat → Int) : Bool := @decide (Dist m G) (Classical.propDecidable _)
theorem distB_true {m : Nat} {G : Nat → Int} (h : Dist m G) : distB m G = true := @decide_eq_true _ (Classical.propDecidable _) h
theorem distB_false {m : Nat} {G : Nat → Int} (h : ¬ Dist m G) : distB m G = false := @decide_eq_false _ (Classical.propDecidable _) h
/-- The cells in their order. -/
def lineG (n : Nat) (F : Nat → Nat → Int) : Nat → Int := fun k => F (k / n) (k % n)
theorem lineG_at {n x y : Nat} (F : Nat → Nat → Int) (h : y < n) : lineG n F (x * n + y) = F x y := by
  have hn : 0 < n := by omega
  unfold lineG
  rw [show x * n + y = y + n * x by rw [Nat.mul_comm]; omega, Nat.add_mul_div_left _ _ hn, Nat.add_mul_mod_self_left, Nat.div_eq_of_lt h, Nat.mod_eq_of_lt h, Nat.zero_add]
theorem lineG_congr {n : Nat} {F H : Nat → Nat → Int} (h : ∀ x y, x < n → y < n → F x y = H x y) {k : Nat} (hk : k < n * n) : lineG n F k = lineG n H k := by
  have hn : 0 < n := by
    rcases Nat.eq_zero_or_pos n with e | e
    · subst e; omega
    · exact e
  exact h _ _ (Nat.div_lt_of_lt_mul hk) (Nat.mod_lt _ hn)
theorem distB_congr {m : Nat} {G H : Nat → Int} (h : ∀ k, k < m → G k = H k) : distB m G = distB m H := by
  have : Dist m G ↔ Dist m H := by
    unfold Dist
    constructor
    · intro d a b hab hb; rw [← h a (by omega), ← h b hb]; exact d a b hab hb
    · intro d a b hab hb; rw [h a (by omega), h b hb]; exact d a b hab hb
  by_cases c : Dist m G
  · rw [distB_true c, distB_true (this.1 c)]
  · rw [distB_false c, distB_false (fun k => c (this.2 k))]
/-- Which numbers occur among the first k. -/
noncomputable def seenP (G : Nat → Int) (k : Nat) : Nat → Bool := fun i => @decide (∃ j, j < k ∧ G j = (i : Int)) (Classical.propDecidable _)
theorem seenP_zero (G : Nat → Int) : seenP G 0 = fun _ => false := by
  funext i
  exact @decide_eq_false _ (Classical.propDecidable _) (fun ⟨j, hj, _⟩ => by omega)
theorem seenP_true {G : Nat → Int} {k i : Nat} (h : seenP G k i = true) : ∃ j, j < k ∧ G j = (i : Int) := @of_decide_eq_true _ (Classical.propDecidable _) h
theorem seenP_false {G : Nat → Int} {k i : Nat} (h : seenP G k i = false) : ∀ j, j < k → G j ≠ (i : Int) := fun j hj e => @of_decide_eq_false _ (Classical.propDecidable _) h ⟨j, hj, e⟩
theorem seenP_succ {G : Nat → Int} {k t : Nat} (e : G k = (t : Int)) : updB (seenP G k) t true = seenP G (k + 1) := by
  funext i
  unfold updB
  by_cases c : i = t
  · rw [if_pos c]
    exact (@decide_eq_true _ (Classical.propDecidable _) ⟨k, by omega, by rw [e, c]⟩).symm
  · rw [if_neg c]
    cases hs : seenP G k i with
    | true =>
      obtain ⟨j, hj, ej⟩ := seenP_true hs
      exact (@decide_eq_true _ (Classical.propDecidable _) ⟨j, by omega, ej⟩).symm
    | false =>
      refine (@decide_eq_false _ (Classical.propDecidable _) (fun ⟨j, hj, ej⟩ => ?_)).symm
      by_cases q : j = k
      · rw [q, e] at ej; omega
      · exact seenP_false hs j (by omega) ej
theorem dist_succ {G : Nat → Int} {k t : Nat} (h : Dist k G) (e : G k = (t : Int)) (hs : seenP G k t = false) : Dist (k + 1) G := fun a b hab hb => by
  by_cases c : b = k
  · rw [c, e]; exact seenP_false hs a (by omega)
  · exact h a b hab (by omega)
theorem not_dist {G : Nat → Int} {k t m : Nat} (hk : k < m) (e : G k = (t : Int)) (hs : seenP G k t = true) : ¬ Dist m G := fun d => by
  obtain ⟨j, hj, ej⟩ := seenP_true hs
  exact d j k hj hk (by rw [ej, e])
/-- Orthogonal squares. -/
noncomputable def Orthogonal_0 (xss yss : List (List Int)) : Bool :=
  @ite _ ((sqB xss = true ∧ sqB yss = true) ∧ xss.length = yss.length) (Classical.propDecidable _) (distB (xss.length * xss.length) (lineG xss.length (overF xss.length (cellF xss) (cellF yss)))) false
theorem Orth_no {xss yss : List (List Int)} (h : ¬ ((sqB xss = true ∧ sqB yss = true) ∧ xss.length = yss.length)) : Orthogonal_0 xss yss = false := by unfold Orthogonal_0; rw [if_neg h]
theorem Orth_ok {xss yss : List (List Int)} (h : sqB xss = true ∧ sqB yss = true) (k : xss.length = yss.length) : Orthogonal_0 xss yss = distB (xss.length * xss.length) (lineG xss.length (overF xss.length (cellF xss) (cellF yss))) := by unfold Orthogonal_0; rw [if_pos ⟨h, k⟩]
end Go.Proofs.Ytkonddifmonkcaa
