/- The next subset: its rank is the next one. -/
import Derived.Test.YtocjdjgfadaljaaUr
namespace Go.Proofs.Ytocjdjgfadaljaa
open Go.RowKit
set_option linter.unusedVariables false

/-- What is left behind a subset, by places. -/
def dTs (n : Nat) (xs : List Int) : Nat → Nat
  | 0 => 0
  | i + 1 => dTs n xs i + ch (n - 1 - el xs i) (xs.length - i)
theorem inr_hock {n r lo : Nat} (hn : n ≤ 32) (hr : r < 32) : ∀ t, lo + t ≤ n → inr n r lo t + ch (n - (lo + t)) (r + 1) = ch (n - lo) (r + 1)
  | 0, _ => by simp [inr]
  | t + 1, h => by
    have ih := inr_hock (lo := lo) hn hr t (by omega)
    have p := ch_pa (n := n - (lo + (t + 1))) (k := r) (by omega) (by omega)
    rw [show n - (lo + (t + 1)) + 1 = n - (lo + t) by omega] at p
    rw [inr, show n - 1 - (lo + t) = n - (lo + (t + 1)) by omega]
    omega
theorem rk_dTs {n : Nat} {xs : List Int} (h : VSet n xs) : ∀ i, i ≤ xs.length → rkT n xs i + ch (n - lowOf xs i) (xs.length - i) + dTs n xs i = ch n xs.length
  | 0, _ => by simp [rkT, dTs, lowOf]
  | i + 1, hi => by
    have ih := rk_dTs h i (by omega)
    have h1 := h.low i (by omega)
    have h2 := h.top i (by omega)
    have h3 := h.n32
    have hk := inr_hock (n := n) (r := xs.length - 1 - i) (lo := lowOf xs i) h3 (by omega) (el xs i - lowOf xs i) (by omega)
    rw [show lowOf xs i + (el xs i - lowOf xs i) = el xs i by omega, show xs.length - 1 - i + 1 = xs.length - i by omega] at hk
    have p := ch_pa (n := n - 1 - el xs i) (k := xs.length - 1 - i) (by omega) (by omega)
    rw [show n - 1 - el xs i + 1 = n - el xs i by omega, show xs.length - 1 - i + 1 = xs.length - i by omega] at p
    have e : lowOf xs (i + 1) = el xs i + 1 := rfl
    rw [rkT, dTs, e, show n - (el xs i + 1) = n - 1 - el xs i by omega, show xs.length - (i + 1) = xs.length - 1 - i by omega]
    omega
theorem dTs_mono {n : Nat} {xs : List Int} {i : Nat} : ∀ t, dTs n xs i ≤ dTs n xs (i + t)
  | 0 => Nat.le_refl _
  | t + 1 => by
    have := dTs_mono (n := n) (xs := xs) (i := i) t
    rw [← Nat.add_assoc, dTs]; omega
theorem rkT_mono {n : Nat} {xs : List Int} {i : Nat} : ∀ t, rkT n xs i ≤ rkT n xs (i + t)
  | 0 => Nat.le_refl _
  | t + 1 => by
    have := rkT_mono (n := n) (xs := xs) (i := i) t
    rw [← Nat.add_assoc, rkT]; omega
theorem inr_mono {n r lo : Nat} {i : Nat} : ∀ t, inr n r lo i ≤ inr n r lo (i + t)
  | 0 => Nat.le_refl _
  | t + 1 => by
    have := inr_mono (n := n) (r := r) (lo := lo) (i := i) t
    rw [← Nat.add_assoc, inr]; omega
theorem rk_end {n : Nat} {xs : List Int} (h : VSet n xs) : rkT n xs xs.length + 1 + dTs n xs xs.length = ch n xs.length := by
  have := rk_dTs h xs.length (Nat.le_refl _)
  rw [Nat.sub_self, ch_zero] at this
  exact this
theorem lowOf_le {n : Nat} {xs : List Int} (h : VSet n xs) : ∀ i, i ≤ xs.length → lowOf xs i ≤ n
  | 0, _ => Nat.zero_le _
  | i + 1, hi => by
    have := h.top i (by omega)
    show el xs i + 1 ≤ n
    omega
/-- What is still to come is less than the next coefficient. -/
theorem rk_rest {n : Nat} {xs : List Int} (h : VSet n xs) (i : Nat) (hi : i < xs.length) : rkT n xs xs.length - rkT n xs (i + 1) < ch (n - 1 - el xs i) (xs.length - 1 - i) := by
  have a := rk_end h
  have b := rk_dTs h (i + 1) (by omega)
  have c := dTs_mono (n := n) (xs := xs) (i := i + 1) (xs.length - (i + 1))
  have d := rkT_mono (n := n) (xs := xs) (i := i + 1) (xs.length - (i + 1))
  rw [show i + 1 + (xs.length - (i + 1)) = xs.length by omega] at d
  have e : lowOf xs (i + 1) = el xs i + 1 := rfl
  rw [show i + 1 + (xs.length - (i + 1)) = xs.length by omega] at c
  rw [e, show n - (el xs i + 1) = n - 1 - el xs i by omega, show xs.length - (i + 1) = xs.length - 1 - i by omega] at b
  omega
/-- The subset of the rank of a subset is this subset. -/
theorem urS_scan {n : Nat} {xs : List Int} (h : VSet n xs) (i : Nat) (hi : i < xs.length)
    (hS : urS n xs.length (rkT n xs xs.length) (lowOf xs i) = (xs.take i, rkT n xs xs.length - rkT n xs i)) :
    ∀ t, t ≤ el xs i - lowOf xs i → urS n xs.length (rkT n xs xs.length) (lowOf xs i + t) = (xs.take i, rkT n xs xs.length - rkT n xs i - inr n (xs.length - 1 - i) (lowOf xs i) t)
  | 0, _ => by rw [Nat.add_zero, hS, inr, Nat.sub_zero]
  | t + 1, ht => by
    have ih := urS_scan h i hi hS t (by omega)
    have hl : (xs.take i).length = i := by rw [List.length_take]; omega
    have m1 := rkT_mono (n := n) (xs := xs) (i := i + 1) (xs.length - (i + 1))
    rw [show i + 1 + (xs.length - (i + 1)) = xs.length by omega, rkT] at m1
    have m2 := inr_mono (n := n) (r := xs.length - 1 - i) (lo := lowOf xs i) (i := t + 1) (el xs i - lowOf xs i - (t + 1))
    rw [show t + 1 + (el xs i - lowOf xs i - (t + 1)) = el xs i - lowOf xs i by omega, inr] at m2
    rw [← Nat.add_assoc, urS, ih]
    show (if xs.length ≤ (xs.take i).length then _ else _) = _
    rw [hl, if_neg (by omega)]
    show (if rkT n xs xs.length - rkT n xs i - inr n (xs.length - 1 - i) (lowOf xs i) t < ch (n - 1 - (lowOf xs i + t)) (xs.length - 1 - i) then _ else _) = _
    rw [if_neg (by omega), inr, Nat.sub_sub (rkT n xs xs.length - rkT n xs i)]
theorem urS_rank {n : Nat} {xs : List Int} (h : VSet n xs) : ∀ i, i ≤ xs.length → urS n xs.length (rkT n xs xs.length) (lowOf xs i) = (xs.take i, rkT n xs xs.length - rkT n xs i)
  | 0, _ => by simp [lowOf, urS, rkT]
  | i + 1, hi => by
    have ih := urS_rank h i (by omega)
    have hl : (xs.take i).length = i := by rw [List.length_take]; omega
    have h1 := h.low i (by omega)
    have s := urS_scan h i (by omega) ih (el xs i - lowOf xs i) (Nat.le_refl _)
    have r := rk_rest h i (by omega)
    have e : lowOf xs (i + 1) = el xs i + 1 := rfl
    rw [show lowOf xs i + (el xs i - lowOf xs i) = el xs i by omega, Nat.sub_sub, ← rkT] at s
    rw [e, urS, s]
    show (if xs.length ≤ (xs.take i).length then _ else _) = _
    rw [hl, if_neg (by omega)]
    show (if rkT n xs xs.length - rkT n xs (i + 1) < ch (n - 1 - el xs i) (xs.length - 1 - i) then _ else _) = _
    rw [if_pos r, List.take_succ_eq_append_getElem (by omega), ← h.el i (by omega)]
    simp [List.getD, List.getElem?_eq_getElem (show i < xs.length by omega)]
theorem urS_at {n : Nat} {xs : List Int} (h : VSet n xs) : (urS n xs.length (rkT n xs xs.length) n).1 = xs := by
  have a := urS_rank h xs.length (Nat.le_refl _)
  rw [List.take_length] at a
  have b := urS_stop (n := n) (k := xs.length) (R := rkT n xs xs.length) (x := lowOf xs xs.length) (by rw [a]; exact Nat.le_refl _) (n - lowOf xs xs.length)
  rw [show lowOf xs xs.length + (n - lowOf xs xs.length) = n by have := lowOf_le h _ (Nat.le_refl _); omega] at b
  rw [b, a]

/-- The next subset, where place i is the last one that can grow. -/
def sucL (xs : List Int) (i : Nat) : List Int := xs.take i ++ (List.range (xs.length - i)).map (fun t => ((el xs i + 1 + t : Nat) : Int))
theorem sucL_len {xs : List Int} {i : Nat} (hi : i ≤ xs.length) : (sucL xs i).length = xs.length := by
  unfold sucL; rw [List.length_append, List.length_take, List.length_map, List.length_range]; omega
theorem sucL_lo {xs : List Int} {i j : Nat} (hi : i ≤ xs.length) (hj : j < i) : (sucL xs i).getD j 0 = xs.getD j 0 := by
  unfold sucL
  simp only [List.getD]
  rw [List.getElem?_append_left (by rw [List.length_take]; omega), List.getElem?_take_of_lt hj]
theorem sucL_hi {xs : List Int} {i j : Nat} (hi : i ≤ xs.length) (hj : i ≤ j) (hl : j < xs.length) : (sucL xs i).getD j 0 = ((el xs i + 1 + (j - i) : Nat) : Int) := by
  have e : (xs.take i).length = i := by rw [List.length_take]; omega
  unfold sucL
  simp only [List.getD]
  rw [List.getElem?_append_right (by omega), e, List.getElem?_map, List.getElem?_range (by omega)]
  rfl
theorem sucL_el_lo {xs : List Int} {i j : Nat} (hi : i ≤ xs.length) (hj : j < i) : el (sucL xs i) j = el xs j := by
  unfold el; rw [sucL_lo hi hj]
theorem sucL_el_hi {xs : List Int} {i j : Nat} (hi : i ≤ xs.length) (hj : i ≤ j) (hl : j < xs.length) : el (sucL xs i) j = el xs i + 1 + (j - i) := by
  rw [show el (sucL xs i) j = ((sucL xs i).getD j 0).toNat from rfl, sucL_hi hi hj hl, Int.toNat_natCast]
theorem sucL_vset {n : Nat} {xs : List Int} (h : VSet n xs) {i : Nat} (hi : i < xs.length) (hlt : el xs i + (xs.length - i) < n) : VSet n (sucL xs i) := by
  have hl := sucL_len (xs := xs) (i := i) (by omega)
  refine ⟨h.n32, fun j hj => ?_, fun j hj => ?_, fun j hj => ?_⟩
  · rw [hl] at hj
    by_cases c : j < i
    · rw [sucL_lo (by omega) c, sucL_el_lo (by omega) c]; exact h.el j hj
    · rw [sucL_hi (by omega) (by omega) hj, sucL_el_hi (by omega) (by omega) hj]
  · rw [hl] at hj
    cases j with
    | zero => exact Nat.zero_le _
    | succ j =>
      show el (sucL xs i) j + 1 ≤ el (sucL xs i) (j + 1)
      by_cases c : j + 1 < i
      · rw [sucL_el_lo (by omega) c, sucL_el_lo (by omega) (by omega)]; exact h.low (j + 1) hj
      · by_cases d : j + 1 = i
        · have := h.low (j + 1) hj
          have e : lowOf xs (j + 1) = el xs j + 1 := rfl
          rw [e] at this
          subst d
          rw [sucL_el_lo (by omega) (by omega), sucL_el_hi (by omega) (by omega) hj]; omega
        · rw [sucL_el_hi (by omega) (by omega) (by omega), sucL_el_hi (by omega) (by omega) hj]; omega
  · rw [hl] at hj ⊢
    by_cases c : j < i
    · rw [sucL_el_lo (by omega) c]; exact h.top j hj
    · rw [sucL_el_hi (by omega) (by omega) hj]; omega
theorem dTs_pre {n : Nat} {xs : List Int} {i : Nat} (hi : i ≤ xs.length) : ∀ j, j ≤ i → dTs n (sucL xs i) j = dTs n xs j
  | 0, _ => rfl
  | j + 1, hj => by rw [dTs, dTs, dTs_pre hi j (by omega), sucL_len hi, sucL_el_lo hi (by omega)]
theorem dTs_last {n : Nat} {xs : List Int} {i : Nat} (hn : ∀ j, i ≤ j → j < xs.length → el xs j + (xs.length - j) = n) : ∀ t, i + t ≤ xs.length → dTs n xs (i + t) = dTs n xs i
  | 0, _ => rfl
  | t + 1, ht => by
    have := hn (i + t) (by omega) (by omega)
    rw [← Nat.add_assoc, dTs, dTs_last hn t (by omega), ch_big (by omega), Nat.add_zero]
theorem dTs_suc {n : Nat} {xs : List Int} (h : VSet n xs) {i : Nat} (hi : i < xs.length) (hlt : el xs i + (xs.length - i) < n) :
    ∀ t, i + t ≤ xs.length → dTs n (sucL xs i) (i + t) + ch (n - 1 - el xs i - t) (xs.length - i - t) = dTs n xs i + ch (n - 1 - el xs i) (xs.length - i)
  | 0, _ => by rw [Nat.add_zero, Nat.sub_zero, Nat.sub_zero, dTs_pre (by omega) i (Nat.le_refl _)]
  | t + 1, ht => by
    have ih := dTs_suc h hi hlt t (by omega)
    have h3 := h.n32
    have p := ch_pa (n := n - 1 - el xs i - (t + 1)) (k := xs.length - i - (t + 1)) (by omega) (by omega)
    rw [show n - 1 - el xs i - (t + 1) + 1 = n - 1 - el xs i - t by omega, show xs.length - i - (t + 1) + 1 = xs.length - i - t by omega] at p
    rw [← Nat.add_assoc, dTs, sucL_len (by omega), sucL_el_hi (by omega) (by omega) (by omega), show n - 1 - (el xs i + 1 + (i + t - i)) = n - 1 - el xs i - (t + 1) by omega, show xs.length - (i + t) = xs.length - i - t by omega]
    omega
theorem rank_suc {n : Nat} {xs : List Int} (h : VSet n xs) {i : Nat} (hi : i < xs.length) (hlt : el xs i + (xs.length - i) < n) (hn : ∀ j, i + 1 ≤ j → j < xs.length → el xs j + (xs.length - j) = n) :
    rkT n xs xs.length + 1 < ch n xs.length ∧ (urS n xs.length (rkT n xs xs.length + 1) n).1 = sucL xs i := by
  have v := sucL_vset h hi hlt
  have hl := sucL_len (xs := xs) (i := i) (by omega)
  have a := rk_end h
  have b := rk_end v
  have c := dTs_suc h hi hlt (xs.length - i) (by omega)
  have d := dTs_last hn (xs.length - (i + 1)) (by omega)
  rw [show i + 1 + (xs.length - (i + 1)) = xs.length by omega, dTs] at d
  rw [show i + (xs.length - i) = xs.length by omega, Nat.sub_self, ch_zero] at c
  have u := urS_at v
  rw [hl] at b u
  have e : rkT n (sucL xs i) xs.length = rkT n xs xs.length + 1 := by omega
  rw [e] at u
  exact ⟨by omega, u⟩
theorem rank_last {n : Nat} {xs : List Int} (h : VSet n xs) (hn : ∀ j, 0 ≤ j → j < xs.length → el xs j + (xs.length - j) = n) : rkT n xs xs.length + 1 = ch n xs.length := by
  have a := rk_end h
  have d := dTs_last hn xs.length (by omega)
  rw [Nat.zero_add] at d
  rw [d, dTs] at a
  omega

/-- What NextSubset answers. -/
def okN (n : Int) (xs : List Int) : Prop := validSet xs n = true ∧ rkT n.toNat xs xs.length + 1 < ch n.toNat xs.length
noncomputable def nxB (n : Int) (xs : List Int) : Bool := @decide (okN n xs) (Classical.propDecidable _)
noncomputable def nxA (n : Int) (xs : List Int) : List Int := @ite _ (okN n xs) (Classical.propDecidable _) (urS n.toNat xs.length (rkT n.toNat xs xs.length + 1) n.toNat).1 []
theorem nx_no {n : Int} {xs : List Int} (h : ¬ okN n xs) : nxA n xs = [] ∧ nxB n xs = false := by
  unfold nxA nxB; rw [if_neg h]; exact ⟨rfl, @decide_eq_false _ (Classical.propDecidable _) h⟩
theorem nx_yes {n : Int} {xs : List Int} (h : okN n xs) : nxA n xs = (urS n.toNat xs.length (rkT n.toNat xs xs.length + 1) n.toNat).1 ∧ nxB n xs = true := by
  unfold nxA nxB; rw [if_pos h]; exact ⟨rfl, @decide_eq_true _ (Classical.propDecidable _) h⟩
theorem nxA_len (n : Int) (xs : List Int) : (nxA n xs).length ≤ 32 := by
  by_cases h : okN n xs
  · obtain ⟨m, rfl, v⟩ := vset_of h.1
    have h2 := h.2
    have hl := v.len
    have hn := v.n32
    simp only [Int.toNat_natCast] at h2
    rw [(nx_yes h).1]
    simp only [Int.toNat_natCast]
    rw [urS_end hn hl h2]; omega
  · rw [(nx_no h).1]; simp
end Go.Proofs.Ytocjdjgfadaljaa
