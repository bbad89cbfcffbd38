/- The permutation with a rank: the numbers. -/
import Derived.Test.YtkonddifmonkcaaRkm
import Derived.Test.YtkonddifmonkcaaFnu
import Derived.Test.YtkonddifmonkcaaFns
namespace Go.Proofs.Ytkonddifmonkcaa
open Go.RowKit
set_option linter.unusedVariables false

def U01 (u : Nat → Int) : Prop := ∀ y, 0 ≤ u y ∧ u y ≤ 1
theorem U01.bit {u : Nat → Int} (h : U01 u) : Bit u := fun y => by have := h y; omega
theorem sumU_mono {u : Nat → Int} (h : U01 u) (x : Nat) : ∀ d, sumU u x ≤ sumU u (x + d)
  | 0 => Int.le_refl _
  | d + 1 => by have := sumU_mono h x d; have := h (x + d); rw [← Nat.add_assoc, sumU]; omega
/-- The number of a place is one. -/
theorem sel_uniq {u : Nat → Int} (h : U01 u) {x y : Nat} (hx : u x = 1) (hy : u y = 1) (e : sumU u x = sumU u y) : x = y := by
  rcases Nat.lt_trichotomy x y with c | c | c
  · have := sumU_mono h (x + 1) (y - (x + 1))
    rw [show x + 1 + (y - (x + 1)) = y by omega, sumU] at this; omega
  · exact c
  · have := sumU_mono h (y + 1) (x - (y + 1))
    rw [show y + 1 + (x - (y + 1)) = x by omega, sumU] at this; omega
theorem sel_ex {u : Nat → Int} (h : U01 u) (b : Int) (hb : 0 ≤ b) : ∀ n, b < sumU u n → ∃ x, x < n ∧ u x = 1 ∧ sumU u x = b
  | 0, hs => by simp only [sumU] at hs; omega
  | n + 1, hs => by
    by_cases c : b < sumU u n
    · obtain ⟨x, h1, h2⟩ := sel_ex h b hb n c
      exact ⟨x, by omega, h2⟩
    · rw [sumU] at hs
      have := h n
      exact ⟨n, by omega, by omega, by omega⟩
open Classical in
noncomputable def sel (u : Nat → Int) (b : Int) : Nat := if h : ∃ x, x < 12 ∧ u x = 1 ∧ sumU u x = b then Classical.choose h else 0
theorem sel_is {u : Nat → Int} (h : U01 u) {b : Int} (hb : 0 ≤ b) (hs : b < sumU u 12) : sel u b < 12 ∧ u (sel u b) = 1 ∧ sumU u (sel u b) = b := by
  have e := sel_ex h b hb 12 hs
  unfold sel
  rw [dif_pos e]
  exact Classical.choose_spec e
theorem sel_eq {u : Nat → Int} (h : U01 u) {b : Int} (hb : 0 ≤ b) (hs : b < sumU u 12) {x : Nat} (hx : u x = 1) (e : sumU u x = b) : sel u b = x := by
  obtain ⟨_, h2, h3⟩ := sel_is h hb hs
  exact sel_uniq h h2 hx (by omega)
/-- The digits of a rank. -/
def dgt (n r i : Nat) : Nat := r / fct (n - 1 - i) % (n - i)
theorem dgt_lt (n r i : Nat) (h : i < n) : dgt n r i < n - i := Nat.mod_lt _ (by omega)
/-- What is unused before the place i. -/
noncomputable def stU (n r : Nat) : Nat → (Nat → Int)
  | 0 => lt1 n
  | i + 1 => updI (stU n r i) (sel (stU n r i) (dgt n r i : Nat)) (stU n r i (sel (stU n r i) (dgt n r i : Nat)) + -1)
theorem lt1_sum (n : Nat) : ∀ x, x ≤ n → sumU (lt1 n) x = x
  | 0, _ => rfl
  | x + 1, h => by
    rw [sumU, lt1_sum n x (by omega)]
    unfold lt1
    rw [if_pos (by omega)]; rfl
theorem lt1_sum2 (n : Nat) : ∀ d, sumU (lt1 n) (n + d) = n
  | 0 => lt1_sum n n (Nat.le_refl _)
  | d + 1 => by
    rw [← Nat.add_assoc, sumU, lt1_sum2 n d]
    unfold lt1
    rw [if_neg (by omega)]; omega
theorem stU_ok {n r : Nat} (hn : n ≤ 12) : ∀ i, i ≤ n → U01 (stU n r i) ∧ sumU (stU n r i) 12 = ((n - i : Nat) : Int)
  | 0, _ => by
    refine ⟨fun y => ?_, ?_⟩
    · show 0 ≤ lt1 n y ∧ lt1 n y ≤ 1
      unfold lt1; split <;> omega
    · have := lt1_sum2 n (12 - n)
      rw [show n + (12 - n) = 12 by omega] at this
      exact this
  | i + 1, h => by
    obtain ⟨h1, h2⟩ := stU_ok hn i (by omega)
    have dl := dgt_lt n r i (by omega)
    obtain ⟨s1, s2, s3⟩ := sel_is h1 (b := (dgt n r i : Nat)) (by omega) (by rw [h2]; omega)
    rw [stU]
    refine ⟨fun y => ?_, ?_⟩
    · unfold updI
      have := h1 y
      split
      · rw [s2]; omega
      · exact this
    · rw [sumU_upd, if_pos s1, h2]; omega
/-- The number at the place i. -/
noncomputable def unr (n r i : Nat) : Nat := sel (stU n r i) (dgt n r i : Nat)
theorem unr_ok {n r i : Nat} (hn : n ≤ 12) (h : i < n) : unr n r i < 12 ∧ stU n r i (unr n r i) = 1 ∧ sumU (stU n r i) (unr n r i) = (dgt n r i : Nat) := by
  obtain ⟨h1, h2⟩ := stU_ok (r := r) hn i (by omega)
  have dl := dgt_lt n r i h
  exact sel_is h1 (by omega) (by rw [h2]; omega)
noncomputable def unrL (n r : Nat) : List Int := (List.range n).map (fun i => ((unr n r i : Nat) : Int))
/-- The list of what is unused. -/
def lstU (u : Nat → Int) : Nat → List Int
  | 0 => []
  | k + 1 => lstU u k ++ (if u k = 1 then [((k : Nat) : Int)] else [])
theorem lstU_len {u : Nat → Int} (h : U01 u) : ∀ k, ((lstU u k).length : Int) = sumU u k
  | 0 => rfl
  | k + 1 => by
    rw [lstU, sumU, List.length_append, Int.natCast_add, lstU_len h k]
    have := h k
    split
    · rename_i e; rw [e]; rfl
    · rename_i e; have : u k = 0 := by omega
      rw [this]; rfl
theorem lstU_congr {u v : Nat → Int} : ∀ k, (∀ y, y < k → u y = v y) → lstU u k = lstU v k
  | 0, _ => rfl
  | k + 1, h => by rw [lstU, lstU, lstU_congr k (fun y hy => h y (by omega)), h k (by omega)]
theorem lstU_split {u : Nat → Int} {x : Nat} (hx : u x = 1) : ∀ d, ∃ rest, lstU u (x + 1 + d) = lstU u x ++ ((x : Nat) : Int) :: rest ∧ lstU (updI u x (u x + -1)) (x + 1 + d) = lstU u x ++ rest
  | 0 => by
    refine ⟨[], ?_, ?_⟩
    · rw [Nat.add_zero, lstU, if_pos hx]
    · rw [Nat.add_zero, lstU, updI_same, hx, if_neg (by decide), List.append_nil, List.append_nil]
      exact lstU_congr x (fun y hy => updI_ne _ _ _ _ (by omega))
  | d + 1 => by
    obtain ⟨rest, h1, h2⟩ := lstU_split hx d
    refine ⟨rest ++ (if u (x + 1 + d) = 1 then [((x + 1 + d : Nat) : Int)] else []), ?_, ?_⟩
    · rw [← Nat.add_assoc, lstU, h1, List.append_assoc, List.cons_append]
    · rw [← Nat.add_assoc, lstU, h2, updI_ne _ _ _ _ (by omega), List.append_assoc]
/-- A step of the model: the number at a place is taken out. -/
theorem lst_step {n r i : Nat} (hn : n ≤ 12) (h : i < n) : ∃ A rest, lstU (stU n r i) 12 = A ++ ((unr n r i : Nat) : Int) :: rest ∧ A.length = dgt n r i ∧ lstU (stU n r (i + 1)) 12 = A ++ rest := by
  obtain ⟨h1, h2⟩ := stU_ok (r := r) hn i (by omega)
  obtain ⟨s1, s2, s3⟩ := unr_ok (r := r) hn h
  obtain ⟨rest, e1, e2⟩ := lstU_split s2 (12 - (unr n r i + 1))
  rw [show unr n r i + 1 + (12 - (unr n r i + 1)) = 12 by omega] at e1 e2
  refine ⟨lstU (stU n r i) (unr n r i), rest, e1, ?_, e2⟩
  have := lstU_len h1 (unr n r i)
  omega
theorem lst_len {n r i : Nat} (hn : n ≤ 12) (h : i ≤ n) : (lstU (stU n r i) 12).length = n - i := by
  obtain ⟨h1, h2⟩ := stU_ok (r := r) hn i h
  have := lstU_len h1 12
  omega
theorem lst_zero {n r : Nat} (hn : n ≤ 12) : lstU (stU n r 0) 12 = oneL n := by
  have : ∀ k, lstU (lt1 n) k = oneL (if k ≤ n then k else n) := by
    intro k
    induction k with
    | zero => rw [if_pos (Nat.zero_le _)]; rfl
    | succ k ih =>
      rw [lstU, ih]
      unfold lt1
      by_cases c : k < n
      · rw [if_pos (by omega), if_pos (by omega), if_pos (by omega), oneL_succ]
      · rw [if_neg (by omega : ¬ k < n), if_neg (by omega : ¬ k + 1 ≤ n), if_neg (show ¬ ((0 : Int) = 1) by decide), List.append_nil]
        by_cases e : k ≤ n
        · rw [if_pos e, show k = n by omega]
        · rw [if_neg e]
  have := this 12
  show lstU (lt1 n) 12 = _
  rw [this]
  by_cases e : 12 ≤ n
  · rw [if_pos e, show n = 12 by omega]
  · rw [if_neg e]
/-- The rest of the rank. -/
theorem dgt_model {n r i : Nat} (h : i < n) : r % fct (n - i) / fct (n - 1 - i) = dgt n r i ∧ r % fct (n - i) % fct (n - 1 - i) = r % fct (n - (i + 1)) := by
  obtain ⟨d, hd⟩ : ∃ d, n - i = d + 1 := ⟨n - i - 1, by omega⟩
  have e1 : n - 1 - i = d := by omega
  have e2 : n - (i + 1) = d := by omega
  unfold dgt
  rw [hd, e1, e2, fct]
  refine ⟨?_, ?_⟩
  · rw [Nat.mul_comm, Nat.mod_mul_right_div_self]
  · exact Nat.mod_mod_of_dvd _ (Nat.dvd_mul_left _ _)
theorem dgt_prog {n r i : Nat} (h : i < n) : r / fct (n - 1 - i) / (n - i) = r / fct (n - i) := by
  obtain ⟨d, hd⟩ : ∃ d, n - i = d + 1 := ⟨n - i - 1, by omega⟩
  have e1 : n - 1 - i = d := by omega
  rw [hd, e1, fct, Nat.div_div_eq_div_mul, Nat.mul_comm]
noncomputable def UnrankPermutation_0 (n r : Int) : List Int := if 0 ≤ n ∧ n ≤ 12 ∧ 0 ≤ r ∧ r < (fct n.toNat : Nat) then unrL n.toNat r.toNat else []
def UnrankPermutation_1 (n r : Int) : Int := if 0 ≤ n ∧ n ≤ 12 ∧ 0 ≤ r ∧ r < (fct n.toNat : Nat) then 0 else 2
theorem Unr_ok {n r : Nat} (h : n ≤ 12) (k : r < fct n) : UnrankPermutation_0 n r = unrL n r ∧ UnrankPermutation_1 n r = 0 := by
  have e : 0 ≤ (n : Int) ∧ (n : Int) ≤ 12 ∧ 0 ≤ (r : Int) ∧ (r : Int) < (fct (n : Int).toNat : Nat) := by rw [Int.toNat_natCast]; omega
  unfold UnrankPermutation_0 UnrankPermutation_1; rw [if_pos e, if_pos e]; exact ⟨rfl, rfl⟩
theorem Unr_out {n r : Int} (h : ¬ (0 ≤ n ∧ n ≤ 12 ∧ 0 ≤ r)) : UnrankPermutation_0 n r = [] ∧ UnrankPermutation_1 n r = 2 := by
  have e : ¬ (0 ≤ n ∧ n ≤ 12 ∧ 0 ≤ r ∧ r < (fct n.toNat : Nat)) := fun k => h ⟨k.1, k.2.1, k.2.2.1⟩
  unfold UnrankPermutation_0 UnrankPermutation_1; rw [if_neg e, if_neg e]; exact ⟨rfl, rfl⟩
theorem Unr_far {n r : Nat} (k : fct n ≤ r) : UnrankPermutation_0 n r = [] ∧ UnrankPermutation_1 n r = 2 := by
  have e : ¬ (0 ≤ (n : Int) ∧ (n : Int) ≤ 12 ∧ 0 ≤ (r : Int) ∧ (r : Int) < (fct (n : Int).toNat : Nat)) := by rw [Int.toNat_natCast]; omega
  unfold UnrankPermutation_0 UnrankPermutation_1; rw [if_neg e, if_neg e]; exact ⟨rfl, rfl⟩
theorem unrL_length (n r : Nat) : (unrL n r).length = n := by simp [unrL]
theorem lenUnrankPermutation_0 (n r : Int) (hn : I64 n) (hr : I64 r) : (UnrankPermutation_0 n r).length ≤ 1000000 := by
  unfold UnrankPermutation_0
  split
  · rw [unrL_length]; omega
  · simp
end Go.Proofs.Ytkonddifmonkcaa
