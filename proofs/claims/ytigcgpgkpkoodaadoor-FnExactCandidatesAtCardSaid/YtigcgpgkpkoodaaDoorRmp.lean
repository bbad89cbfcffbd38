/- RowMap: the numbers. -/
import Derived.Test.YtigcgpgkpkoodaaDoorSyc
import Derived.Test.YtigcgpgkpkoodaaDoorIa
namespace Go.Proofs.YtigcgpgkpkoodaaDoor
open Go.RowKit
set_option linter.unusedVariables false

/-- The images that were set by the columns ahead of j. -/
def rmC (ps qs : List Int) : Nat → Nat → Int
  | 0 => fun _ => 0
  | j + 1 => updI (rmC ps qs j) (ps.getD j 0).toNat (qs.getD j 0)
theorem rmC_at (ps qs : List Int) : ∀ (j v : Nat), v < ps.length → (∃ i, i < j ∧ (ps.getD i 0).toNat = v) → rmC ps qs j v = qs.getD ((bk ps j).getD v 0).toNat 0
  | 0, v, _, ⟨i, hi, _⟩ => by omega
  | j + 1, v, hv, ⟨i, hi, e⟩ => by
    rw [rmC, bk]
    by_cases c : v = (ps.getD j 0).toNat
    · rw [← c, updI_same, getD_set_same _ _ _ _ (by rw [bk_length]; exact hv)]
      simp
    · rw [updI_ne _ _ _ _ c, getD_set_ne _ _ _ _ _ (fun k => c k.symm)]
      refine rmC_at ps qs j v hv ⟨i, ?_, e⟩
      by_cases k : i = j
      · subst k; exact absurd e.symm c
      · omega
theorem tms_getD {ps qs : List Int} {v : Nat} (h : v < ps.length) : (tms ps qs).getD v 0 = qs.getD (ps.getD v 0).toNat 0 := by simp [tms, List.getD, h]
theorem rmC_all {n : Nat} {ps qs : List Int} (hl : ps.length = n) (hp : pmB ps = true) : (List.range n).map (rmC ps qs n) = tms (bck ps) qs := by
  refine list_of_fn (by rw [tms_length, bck_length, hl]) fun v hv => ?_
  rw [tms_getD (by rw [bck_length, hl]; exact hv)]
  obtain ⟨p, h1, h2⟩ := pm_surj hl hp (s := (v : Int)) (by omega) (by omega)
  have := rmC_at ps qs n v (by omega) ⟨p, h1, by rw [h2]; rfl⟩
  rw [this]
  unfold bck
  rw [hl]
theorem bk_range {ps : List Int} {n : Nat} (h1 : 1 ≤ n) (hl : ps.length = n) : ∀ j, j ≤ n → ∀ v, 0 ≤ (bk ps j).getD v 0 ∧ (bk ps j).getD v 0 < n
  | 0, _, v => by
    have : (bk ps 0).getD v 0 = 0 := by
      rw [bk, List.getD_eq_getElem?_getD, List.getElem?_replicate]
      split <;> rfl
    rw [this]; omega
  | j + 1, h, v => by
    rw [bk]
    by_cases c : (ps.getD j 0).toNat = v
    · by_cases d : v < n
      · subst c
        rw [getD_set_same _ _ _ _ (by rw [bk_length, hl]; exact d)]; omega
      · have e : ((bk ps j).set (ps.getD j 0).toNat (j : Int)).getD v 0 = 0 := by
          rw [List.getD_eq_getElem?_getD, List.getElem?_eq_none (by rw [List.length_set, bk_length]; omega)]; rfl
        rw [e]; omega
    · rw [getD_set_ne _ _ _ _ _ c]
      exact bk_range h1 hl j (by omega) v
theorem bck_range {ps : List Int} {n : Nat} (h1 : 1 ≤ n) (hl : ps.length = n) (v : Nat) : 0 ≤ (bck ps).getD v 0 ∧ (bck ps).getD v 0 < n := by
  unfold bck; rw [hl]; exact bk_range h1 hl n (Nat.le_refl _) v

/-- Two numbers that name rows. -/
def In2 (n : Nat) (a b : Int) : Prop := (0 ≤ a ∧ a < n) ∧ (0 ≤ b ∧ b < n)
instance (n : Nat) (a b : Int) : Decidable (In2 n a b) := by unfold In2; exact inferInstance
noncomputable def RowMap_0 (xss : List (List Int)) (a b : Int) : List Int := if sqB xss = true ∧ In2 xss.length a b then tms (bck (xss.getD a.toNat [])) (xss.getD b.toNat []) else []
noncomputable def RowMap_1 (xss : List (List Int)) (a b : Int) : Int := if sqB xss = true then if In2 xss.length a b then 0 else 2 else 1
theorem Rm_bad {xss : List (List Int)} {a b : Int} (h : sqB xss = false) : RowMap_0 xss a b = [] ∧ RowMap_1 xss a b = 1 := by
  unfold RowMap_0 RowMap_1
  rw [h, if_neg (fun k => Bool.noConfusion k.1), if_neg Bool.noConfusion]; exact ⟨rfl, rfl⟩
theorem Rm_out {xss : List (List Int)} {a b : Int} (h : sqB xss = true) (k : ¬ In2 xss.length a b) : RowMap_0 xss a b = [] ∧ RowMap_1 xss a b = 2 := by
  unfold RowMap_0 RowMap_1
  rw [if_neg (fun q => k q.2), if_pos h, if_neg k]; exact ⟨rfl, rfl⟩
theorem Rm_ok {xss : List (List Int)} {a b : Int} (h : sqB xss = true) (k : In2 xss.length a b) : RowMap_0 xss a b = tms (bck (xss.getD a.toNat [])) (xss.getD b.toNat []) ∧ RowMap_1 xss a b = 0 := by
  unfold RowMap_0 RowMap_1
  rw [if_pos ⟨h, k⟩, if_pos h, if_pos k]; exact ⟨rfl, rfl⟩
theorem lenRowMap_0 (xss : List (List Int)) (a b : Int) (hx : SmallLL xss) (ha : I64 a) (hb : I64 b) : (RowMap_0 xss a b).length ≤ 2000000 := by
  cases e : sqB xss with
  | false => rw [(Rm_bad e).1]; decide
  | true =>
    by_cases k : In2 xss.length a b
    · have S := of_sqB e
      have := S.hi
      have k0 := k
      unfold In2 at k0
      rw [(Rm_ok e k).1, tms_length, bck_length, (S.row a.toNat (by omega)).1]; omega
    · rw [(Rm_out e k).1]; decide
end Go.Proofs.YtigcgpgkpkoodaaDoor
