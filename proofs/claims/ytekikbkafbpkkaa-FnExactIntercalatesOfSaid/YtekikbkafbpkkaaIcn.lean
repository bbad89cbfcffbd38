/- IntercalatesOf: the numbers. -/
import Derived.Test.YtekikbkafbpkkaaLim
import Derived.Test.YtekikbkafbpkkaaQgs
import Derived.Test.YtekikbkafbpkkaaIcm
namespace Go.Proofs.Ytekikbkafbpkkaa
open Go.RowKit Go.Shelf
set_option linter.unusedVariables false

/-- The lists of the indexes from lo to k, one behind the other. -/
def cat (lo : Nat) (f : Nat → List (List Int)) : Nat → List (List Int)
  | 0 => []
  | k + 1 => cat lo f k ++ (if lo ≤ k then f k else [])
theorem cat_lo (lo : Nat) (f : Nat → List (List Int)) : ∀ k, k ≤ lo → cat lo f k = []
  | 0, _ => rfl
  | k + 1, h => by rw [cat, cat_lo lo f k (by omega), if_neg (by omega)]; rfl
theorem cat_step {lo k : Nat} (f : Nat → List (List Int)) (h : lo ≤ k) : cat lo f (k + 1) = cat lo f k ++ f k := by rw [cat, if_pos h]
/-- The rows and what is in them. -/
def mu (L : List (List Int)) : Nat := L.length + tot L
theorem mu_append (A B : List (List Int)) : mu (A ++ B) = mu A + mu B := by unfold mu; rw [List.length_append, tot_append]; omega
theorem mu_nil : mu [] = 0 := rfl
theorem mu_cat (lo : Nat) (f : Nat → List (List Int)) (m : Nat) (h : ∀ k, mu (f k) ≤ m) : ∀ k, mu (cat lo f k) ≤ k * m
  | 0 => by rw [cat, mu_nil]; omega
  | k + 1 => by
    have a := mu_cat lo f m h k
    rw [cat, mu_append]
    by_cases c : lo ≤ k
    · rw [if_pos c]; have := h k; rw [Nat.succ_mul]; omega
    · rw [if_neg c, mu_nil, Nat.succ_mul]; omega
def itc (F : Nat → Nat → Int) (r s c d : Nat) : List (List Int) := if (F r c == F s d && F r d == F s c) = true then [[(r : Int), (s : Int), (c : Int), (d : Int)]] else []
theorem itc_yes {F : Nat → Nat → Int} {r s c d : Nat} (h : (F r c == F s d && F r d == F s c) = true) : itc F r s c d = [[(r : Int), (s : Int), (c : Int), (d : Int)]] := if_pos h
theorem itc_no {F : Nat → Nat → Int} {r s c d : Nat} (h : (F r c == F s d && F r d == F s c) = false) : itc F r s c d = [] := if_neg (by rw [h]; simp)
def itD (F : Nat → Nat → Int) (r s c : Nat) : Nat → List (List Int) := cat (c + 1) (itc F r s c)
def itC (n : Nat) (F : Nat → Nat → Int) (r s : Nat) : Nat → List (List Int) := cat 0 (fun c => itD F r s c n)
def itS (n : Nat) (F : Nat → Nat → Int) (r : Nat) : Nat → List (List Int) := cat (r + 1) (fun s => itC n F r s n)
def itR (n : Nat) (F : Nat → Nat → Int) : Nat → List (List Int) := cat 0 (fun r => itS n F r n)
theorem mu_itc (F : Nat → Nat → Int) (r s c d : Nat) : mu (itc F r s c d) ≤ 5 := by
  unfold itc; split
  · exact Nat.le_refl _
  · exact Nat.zero_le _
theorem mu_itD (F : Nat → Nat → Int) (r s c : Nat) {k : Nat} (h : k ≤ 10) : mu (itD F r s c k) ≤ 50 := by
  have := mu_cat (c + 1) (itc F r s c) 5 (mu_itc F r s c) k
  unfold itD; omega
theorem mu_itC {n : Nat} (F : Nat → Nat → Int) (r s : Nat) (hn : n ≤ 10) {k : Nat} (h : k ≤ 10) : mu (itC n F r s k) ≤ 500 := by
  have := mu_cat 0 (fun c => itD F r s c n) 50 (fun c => mu_itD F r s c hn) k
  unfold itC; omega
theorem mu_itS {n : Nat} (F : Nat → Nat → Int) (r : Nat) (hn : n ≤ 10) {k : Nat} (h : k ≤ 10) : mu (itS n F r k) ≤ 5000 := by
  have := mu_cat (r + 1) (fun s => itC n F r s n) 500 (fun s => mu_itC F r s hn hn) k
  unfold itS; omega
theorem mu_itR {n : Nat} (F : Nat → Nat → Int) (hn : n ≤ 10) {k : Nat} (h : k ≤ 10) : mu (itR n F k) ≤ 50000 := by
  have := mu_cat 0 (fun r => itS n F r n) 5000 (fun r => mu_itS F r hn hn) k
  unfold itR; omega
/-- What stands in the list ahead of the rows r and s and the columns c and d. -/
def itL (n : Nat) (F : Nat → Nat → Int) (r s c d : Nat) : List (List Int) := itR n F r ++ (itS n F r s ++ (itC n F r s c ++ itD F r s c d))
theorem itL_len {n : Nat} (F : Nat → Nat → Int) (hn : n ≤ 10) {r s c d : Nat} (hr : r ≤ 10) (hs : s ≤ 10) (hc : c ≤ 10) (hd : d ≤ 10) : (itL n F r s c d).length < 1000000000 := by
  have a := mu_itR F hn hr
  have b := mu_itS F r hn hs
  have e := mu_itC F r s hn hc
  have g := mu_itD F r s c hd
  have : mu (itL n F r s c d) ≤ 60000 := by unfold itL; rw [mu_append, mu_append, mu_append]; omega
  unfold mu at this
  omega
theorem itL_start (n : Nat) (F : Nat → Nat → Int) : itL n F 0 1 0 1 = [] := rfl
theorem itL_d {n : Nat} (F : Nat → Nat → Int) {r s c d : Nat} (h : c + 1 ≤ d) : itL n F r s c (d + 1) = itL n F r s c d ++ itc F r s c d := by
  unfold itL
  rw [show itD F r s c (d + 1) = itD F r s c d ++ itc F r s c d from cat_step _ h]
  simp only [List.append_assoc]
theorem itL_c {n : Nat} (F : Nat → Nat → Int) {r s c : Nat} : itL n F r s c n = itL n F r s (c + 1) (c + 1 + 1) := by
  unfold itL
  rw [show itC n F r s (c + 1) = itC n F r s c ++ itD F r s c n from cat_step _ (Nat.zero_le _), show itD F r s (c + 1) (c + 1 + 1) = [] from cat_lo _ _ _ (Nat.le_refl _), List.append_nil]
theorem itL_s {n : Nat} (F : Nat → Nat → Int) {r s : Nat} (h : r + 1 ≤ s) : itL n F r s n (n + 1) = itL n F r (s + 1) 0 1 := by
  unfold itL
  rw [show itS n F r (s + 1) = itS n F r s ++ itC n F r s n from cat_step _ h, show itD F r s n (n + 1) = [] from cat_lo _ _ _ (Nat.le_refl _)]
  rw [show itC n F r (s + 1) 0 = [] from rfl, show itD F r (s + 1) 0 1 = [] from cat_lo _ _ _ (Nat.le_refl _)]
  simp only [List.append_nil]
theorem itL_r {n : Nat} (F : Nat → Nat → Int) {r : Nat} : itL n F r n 0 1 = itL n F (r + 1) (r + 1 + 1) 0 1 := by
  unfold itL
  rw [show itR n F (r + 1) = itR n F r ++ itS n F r n from cat_step _ (Nat.zero_le _), show itS n F (r + 1) (r + 1 + 1) = [] from cat_lo _ _ _ (Nat.le_refl _)]
  rw [show itC n F r n 0 = [] from rfl, show itD F r n 0 1 = [] from cat_lo _ _ _ (Nat.le_refl _), show itC n F (r + 1) (r + 1 + 1) 0 = [] from rfl, show itD F (r + 1) (r + 1 + 1) 0 1 = [] from cat_lo _ _ _ (Nat.le_refl _)]
  simp only [List.append_nil]
theorem itL_end {n : Nat} (F : Nat → Nat → Int) : itL n F n (n + 1) 0 1 = itR n F n := by
  unfold itL
  rw [show itS n F n (n + 1) = [] from cat_lo _ _ _ (Nat.le_refl _), show itC n F n (n + 1) 0 = [] from rfl, show itD F n (n + 1) 0 1 = [] from cat_lo _ _ _ (Nat.le_refl _)]
  simp only [List.append_nil]
theorem icB_itc {n : Nat} (F : Nat → Nat → Int) {r s c d : Nat} (h1 : r < s) (h2 : s < n) (h3 : c < d) (h4 : d < n) : icB n F r s c d = (F r c == F s d && F r d == F s c) := by
  have R : ∀ a b : Nat, a < b → b < n → risesB 0 ((n : Int) - 1) [(a : Int), (b : Int)] = true := fun a b h k => risesB_true fun i hi => by
    match i, hi with
    | 0, _ => exact ⟨by show (0 : Int) ≤ (a : Int); omega, by show (a : Int) ≤ (n : Int) - 1; omega, fun q => by first | omega | (show (a : Int) < (b : Int); omega)⟩
    | 1, _ => exact ⟨by show (0 : Int) ≤ (b : Int); omega, by show (b : Int) ≤ (n : Int) - 1; omega, fun q => by first | (show (a : Int) < (b : Int); omega) | (exfalso; simp at q)⟩
  unfold icB
  rw [R r s h1 h2, R c d h3 h4]
  simp only [Int.toNat_natCast, Bool.true_and]
noncomputable def IntercalatesOf_0 (xss : List (List Int)) : List (List Int) := if sqB xss = true then itR xss.length (cellF xss) xss.length else []
noncomputable def IntercalatesOf_1 (xss : List (List Int)) : Int := if sqB xss = true then 0 else 1
theorem Ico_no {xss : List (List Int)} (h : sqB xss = false) : IntercalatesOf_0 xss = [] ∧ IntercalatesOf_1 xss = 1 := by unfold IntercalatesOf_0 IntercalatesOf_1; rw [h]; exact ⟨rfl, rfl⟩
theorem Ico_yes {xss : List (List Int)} (h : sqB xss = true) : IntercalatesOf_0 xss = itR xss.length (cellF xss) xss.length ∧ IntercalatesOf_1 xss = 0 := by unfold IntercalatesOf_0 IntercalatesOf_1; rw [h]; exact ⟨rfl, rfl⟩
theorem lenIntercalatesOf_0 (xss : List (List Int)) (hx : SmallLL xss) : (IntercalatesOf_0 xss).length + tot (IntercalatesOf_0 xss) ≤ 2000000 := by
  cases e : sqB xss with
  | false => rw [(Ico_no e).1]; decide
  | true =>
    rw [(Ico_yes e).1]
    have h := (of_sqB e).hi
    have := mu_itR (cellF xss) h h
    unfold mu at this
    omega
end Go.Proofs.Ytekikbkafbpkkaa
