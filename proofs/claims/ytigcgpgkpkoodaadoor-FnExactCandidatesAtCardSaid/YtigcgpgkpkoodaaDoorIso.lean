/- Isotope: both sides. -/
import Derived.Test.YtigcgpgkpkoodaaDoorMvd
namespace Go.Proofs.YtigcgpgkpkoodaaDoor
open Go.RowKit Go.Shelf
set_option linter.unusedVariables false

/-- Where the cell in row x and column y goes. -/
def isoMv (xss : List (List Int)) (rs cs ss : List Int) : Nat → Nat → Nat × Nat × Int := fun x y => ((rs.getD x 0).toNat, (cs.getD y 0).toNat, ss.getD (cellF xss x y).toNat 0)
def isoL (xss : List (List Int)) (rs cs ss : List Int) : List (List Int) := gridL xss.length xss.length (movSt xss.length (isoMv xss rs cs ss) xss.length)
noncomputable def isoOk (n : Nat) (rs cs ss : List Int) : Bool := hpB n [rs, cs, ss]
noncomputable def Isotope_0 (xss : List (List Int)) (rs cs ss : List Int) : List (List Int) := if sqB xss = true ∧ isoOk xss.length rs cs ss = true then isoL xss rs cs ss else []
noncomputable def Isotope_1 (xss : List (List Int)) (rs cs ss : List Int) : Int := if sqB xss = true then if isoOk xss.length rs cs ss = true then 0 else 2 else 1
theorem Iso_bad {xss : List (List Int)} {rs cs ss : List Int} (h : sqB xss = false) : Isotope_0 xss rs cs ss = [] ∧ Isotope_1 xss rs cs ss = 1 := by unfold Isotope_0 Isotope_1; rw [h]; exact ⟨rfl, rfl⟩
theorem Iso_no {xss : List (List Int)} {rs cs ss : List Int} (h : sqB xss = true) (k : isoOk xss.length rs cs ss = false) : Isotope_0 xss rs cs ss = [] ∧ Isotope_1 xss rs cs ss = 2 := by unfold Isotope_0 Isotope_1; rw [h, k]; exact ⟨rfl, rfl⟩
theorem Iso_ok {xss : List (List Int)} {rs cs ss : List Int} (h : sqB xss = true) (k : isoOk xss.length rs cs ss = true) : Isotope_0 xss rs cs ss = isoL xss rs cs ss ∧ Isotope_1 xss rs cs ss = 0 := by unfold Isotope_0 Isotope_1; rw [h, k]; exact ⟨rfl, rfl⟩
theorem lenIsotope_0 (xss : List (List Int)) (rs cs ss : List Int) (hx : SmallLL xss) (h1 : SmallL rs) (h2 : SmallL cs) (h3 : SmallL ss) : (Isotope_0 xss rs cs ss).length + tot (Isotope_0 xss rs cs ss) ≤ 2000000 := by
  cases e : sqB xss with
  | false => rw [(Iso_bad e).1]; decide
  | true =>
    cases k : isoOk xss.length rs cs ss with
    | false => rw [(Iso_no e k).1]; decide
    | true =>
      have := (of_sqB e).hi
      rw [(Iso_ok e k).1]
      unfold isoL
      rw [gridL_length, tot_gridL]
      have : xss.length * xss.length ≤ 10 * 10 := Nat.mul_le_mul this this
      omega
/-- A permutation of a degree: its members. -/
theorem pm_mem {n : Nat} {rs : List Int} (h1 : rs.length = n) (h2 : pmB rs = true) {i : Nat} (hi : i < n) : 0 ≤ rs.getD i 0 ∧ rs.getD i 0 < n := by
  have := (of_pmB h2).2 i (by omega)
  unfold okPm at this
  omega
theorem isoOk_parts {n : Nat} {rs cs ss : List Int} (h : isoOk n rs cs ss = true) : (rs.length = n ∧ pmB rs = true) ∧ (cs.length = n ∧ pmB cs = true) ∧ (ss.length = n ∧ pmB ss = true) :=
  ⟨of_hpB h 0 (by simp), of_hpB h 1 (by simp), of_hpB h 2 (by simp)⟩
theorem isoMv_lt {xss : List (List Int)} {rs cs ss : List Int} (h : isoOk xss.length rs cs ss = true) {x y : Nat} (hx : x < xss.length) (hy : y < xss.length) : (isoMv xss rs cs ss x y).1 < xss.length ∧ (isoMv xss rs cs ss x y).2.1 < xss.length := by
  obtain ⟨⟨a1, a2⟩, ⟨b1, b2⟩, _⟩ := isoOk_parts h
  have := pm_mem a1 a2 hx
  have := pm_mem b1 b2 hy
  unfold isoMv
  simp only
  omega

end Go.Proofs.YtigcgpgkpkoodaaDoor
