/- ComplementDesign: the model. -/
import Derived.Test.YtdhlnagkhkcoiaaDoorDsm
import Derived.Test.YtdhlnagkhkcoiaaDoorInc
import Derived.Test.YtdhlnagkhkcoiaaDoorUs
namespace Go.Proofs.YtdhlnagkhkcoiaaDoor
open Go.RowKit Go.Shelf
set_option linter.unusedVariables false
set_option linter.unusedSimpArgs false

/-- The point x does not stand in the block i. -/
def coB (xss : List (List Int)) (i x : Nat) : Bool := !decide ((x : Int) ∈ xss.getD i [])
noncomputable def ComplementDesign_N (n : Int) (xss : List (List Int)) : Int := if desB n xss then dxN n (setsL xss.length n.toNat (coB xss)) else 0
noncomputable def ComplementDesign_L (n : Int) (xss : List (List Int)) : List (List Int) := if desB n xss then dxL (setsL xss.length n.toNat (coB xss)) else []
noncomputable def ComplementDesign_C (n : Int) (xss : List (List Int)) : Int := if desB n xss then dxC (setsL xss.length n.toNat (coB xss)) else 1
theorem com_no {n : Int} {xss : List (List Int)} (h : desB n xss = false) : ComplementDesign_N n xss = 0 ∧ ComplementDesign_L n xss = [] ∧ ComplementDesign_C n xss = 1 := by
  unfold ComplementDesign_N ComplementDesign_L ComplementDesign_C; rw [h]; exact ⟨rfl, rfl, rfl⟩
theorem com_yes {n : Int} {xss : List (List Int)} (h : desB n xss = true) : ComplementDesign_N n xss = dxN n (setsL xss.length n.toNat (coB xss)) ∧ ComplementDesign_L n xss = dxL (setsL xss.length n.toNat (coB xss)) ∧ ComplementDesign_C n xss = dxC (setsL xss.length n.toNat (coB xss)) := by
  unfold ComplementDesign_N ComplementDesign_L ComplementDesign_C; rw [h]; exact ⟨rfl, rfl, rfl⟩
theorem totComplementDesign (n : Int) (xss : List (List Int)) : tot (ComplementDesign_L n xss) ≤ 5000 := by
  unfold ComplementDesign_L
  split
  · rename_i h
    have d := of_desB h
    have a := (dxL_tot (setsL xss.length n.toNat (coB xss))).1
    have b := setsL_tot xss.length n.toNat (coB xss)
    have c : xss.length * n.toNat ≤ 128 * 32 := Nat.mul_le_mul d.2.2.1 (by have := d.2.1; omega)
    omega
  · simp [tot]
/-- All points without those of a block. -/
theorem cmb_all {N : Nat} {n : Int} {ys : List Int} (hn : n = N) (h32 : N ≤ 32) (h : Rises 0 (n - 1) ys) : cmbA (fun a b => a && !b) (fls N (fun _ => true)) ys = fls N (fun x => !decide ((x : Int) ∈ ys)) := by
  subst hn
  unfold cmbA
  rw [if_pos (by rw [Bool.and_eq_true]; unfold validSet; rw [risesB_true (rises_wider (fls_rises N _) (by omega)), risesB_true (rises_wider h (by omega))]; exact ⟨rfl, rfl⟩)]
  refine sorted_ext _ _ (fls_sorted _ _) (fls_sorted _ _) fun z => ?_
  rw [fls_mem, fls_mem]
  constructor
  · rintro ⟨k, h1, h2, rfl⟩
    simp only [Bool.and_eq_true] at h2
    obtain ⟨k', h3, -, e⟩ := (fls_mem N _ _).1 (of_decide_eq_true h2.1)
    exact ⟨k, by omega, h2.2, rfl⟩
  · rintro ⟨k, h1, h2, rfl⟩
    exact ⟨k, by omega, by rw [Bool.and_eq_true]; exact ⟨decide_eq_true ((fls_mem N _ _).2 ⟨k, h1, rfl, rfl⟩), h2⟩, rfl⟩

end Go.Proofs.YtdhlnagkhkcoiaaDoor
