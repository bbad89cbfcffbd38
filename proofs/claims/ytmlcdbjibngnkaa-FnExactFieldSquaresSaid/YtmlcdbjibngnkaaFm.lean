/- Polynomials over the residues of a prime number, as functions from places to coefficients: mathematics alone. -/
import Derived.Test.YtmlcdbjibngnkaaIn
namespace Go.Proofs.Ytmlcdbjibngnkaa
set_option linter.unusedVariables false

abbrev Co := Nat → Int

/-- All coefficients are residues, and zero from n on. -/
def Rd (p : Int) (n : Nat) (c : Co) : Prop := ∀ i, 0 ≤ c i ∧ c i < p ∧ (n ≤ i → c i = 0)

theorem Rd.mono {p : Int} {n m : Nat} {c : Co} (h : Rd p n c) (hm : n ≤ m) : Rd p m c := fun i => ⟨(h i).1, (h i).2.1, fun k => (h i).2.2 (by omega)⟩
theorem Rd.mod {p : Int} {n : Nat} {c : Co} (h : Rd p n c) (i : Nat) : c i % p = c i := Int.emod_eq_of_lt (h i).1 (h i).2.1

def vec (n : Nat) (c : Co) : List Int := (List.range n).map c
@[simp] theorem vec_length (n : Nat) (c : Co) : (vec n c).length = n := by simp [vec]
theorem vec_getD (n : Nat) (c : Co) (i : Nat) (h : i < n) : (vec n c).getD i 0 = c i := by simp [vec, List.getD, h]
theorem vec_succ (n : Nat) (c : Co) : vec (n + 1) c = vec n c ++ [c n] := by simp [vec, List.range_succ]
theorem vec_congr (n : Nat) (c d : Co) (h : ∀ i, i < n → c i = d i) : vec n c = vec n d := by
  unfold vec; exact List.map_congr_left fun i hi => h i (by simpa using hi)
def upd (c : Co) (i : Nat) (v : Int) : Co := fun j => if j = i then v else c j
theorem vec_set (n : Nat) (c : Co) (i : Nat) (v : Int) : (vec n c).set i v = vec n (upd c i v) := by
  apply List.ext_getElem
  · simp
  · intro j h1 h2
    simp only [List.getElem_set, vec, List.getElem_map, List.getElem_range, upd]
    by_cases h : i = j
    · subst h; simp
    · rw [if_neg h, if_neg (fun e => h e.symm)]
theorem vec_take (n m : Nat) (c : Co) (h : m ≤ n) : (vec n c).take m = vec m c := by
  unfold vec
  rw [← List.map_take, List.take_range, Nat.min_eq_left h]

/-- The number with the digits c i, .., c (i + n - 1). -/
def num (p : Int) (c : Co) : Nat → Nat → Int
  | 0, _ => 0
  | n + 1, i => c i + p * num p c n (i + 1)

theorem num_zero (p : Int) (c : Co) : ∀ n i, (∀ j, i ≤ j → c j = 0) → num p c n i = 0
  | 0, _, _ => rfl
  | n + 1, i, h => by rw [num, h i (Nat.le_refl _), num_zero p c n (i + 1) (fun j hj => h j (by omega))]; simp

theorem num_cut (p : Int) (c : Co) : ∀ m k i, (∀ j, i + m ≤ j → c j = 0) → num p c (m + k) i = num p c m i
  | 0, k, i, h => by rw [Nat.zero_add, num_zero p c k i (fun j hj => h j (by omega))]; rfl
  | m + 1, k, i, h => by rw [show m + 1 + k = (m + k) + 1 by omega, num, num, num_cut p c m k (i + 1) (fun j hj => h j (by omega))]

theorem num_congr (p : Int) (c d : Co) : ∀ n i, (∀ j, i ≤ j → j < i + n → c j = d j) → num p c n i = num p d n i
  | 0, _, _ => rfl
  | n + 1, i, h => by rw [num, num, h i (Nat.le_refl _) (by omega), num_congr p c d n (i + 1) (fun j h1 h2 => h j (by omega) (by omega))]

theorem num_bd (p : Nat) (c : Co) (hp : 0 < p) : ∀ n i, (∀ j, 0 ≤ c j ∧ c j < p) → 0 ≤ num p c n i ∧ num p c n i < ((p ^ n : Nat) : Int)
  | 0, _, _ => by simp [num]
  | n + 1, i, h => by
    obtain ⟨a1, a2⟩ := num_bd p c hp n (i + 1) h
    obtain ⟨b1, b2⟩ := h i
    rw [num]
    have e : ((p ^ (n + 1) : Nat) : Int) = (p : Int) * ((p ^ n : Nat) : Int) := by rw [Nat.pow_succ]; push_cast; rw [Int.mul_comm]
    rw [e]
    have h1 : 0 ≤ (p : Int) * num p c n (i + 1) := Int.mul_nonneg (by omega) a1
    have h2 : (p : Int) * (num p c n (i + 1) + 1) ≤ (p : Int) * ((p ^ n : Nat) : Int) := Int.mul_le_mul_of_nonneg_left (by omega) (by omega)
    rw [Int.mul_add, Int.mul_one] at h2
    omega

theorem num_eq0 (p : Int) (c : Co) (hp : 0 < p) (hc : ∀ j, 0 ≤ c j) : ∀ n i, num p c n i = 0 → ∀ j, i ≤ j → j < i + n → c j = 0
  | 0, i, _, j, h1, h2 => by omega
  | n + 1, i, h, j, h1, h2 => by
    rw [num] at h
    have hn : ∀ n i, 0 ≤ num p c n i := by
      intro n
      induction n with
      | zero => intro i; simp [num]
      | succ n ih => intro i; rw [num]; have := Int.mul_nonneg (Int.le_of_lt hp) (ih (i + 1)); have := hc i; omega
    have h3 : 0 ≤ p * num p c n (i + 1) := Int.mul_nonneg (Int.le_of_lt hp) (hn _ _)
    have h4 := hc i
    by_cases e : j = i
    · subst e; omega
    · have h5 : p * num p c n (i + 1) = 0 := by omega
      have h6 : num p c n (i + 1) = 0 := by
        rcases Int.mul_eq_zero.1 h5 with h | h
        · omega
        · exact h
      exact num_eq0 p c hp hc n (i + 1) h6 j (by omega) (by omega)

/-- The digit of p ^ i. -/
def dg (p a : Nat) : Co := fun i => ((a / p ^ i % p : Nat) : Int)
theorem dg_rd (p a n : Nat) (hp : 0 < p) (h : a < p ^ n) : Rd p n (dg p a) := by
  intro i
  refine ⟨Int.natCast_nonneg _, Int.ofNat_lt.2 (Nat.mod_lt _ hp), fun hi => ?_⟩
  have : a < p ^ i := Nat.lt_of_lt_of_le h (Nat.pow_le_pow_right hp hi)
  unfold dg
  rw [Nat.div_eq_of_lt this]; simp
theorem dg_num (p : Nat) (hp : 0 < p) : ∀ n a i, a < p ^ (i + n) → num p (dg p a) n i = ((a / p ^ i : Nat) : Int)
  | 0, a, i, h => by rw [Nat.add_zero] at h; rw [num, Nat.div_eq_of_lt h]; rfl
  | n + 1, a, i, h => by
    rw [num, dg_num p hp n a (i + 1) (by rw [show i + 1 + n = i + (n + 1) by omega]; exact h), dg, Nat.pow_succ, ← Nat.div_div_eq_div_mul]
    have := Nat.mod_add_div (a / p ^ i) p
    exact_mod_cast this

/-- .. with the highest coefficient 1. -/
def wt (p a d : Nat) : Co := fun i => if i = d then 1 else dg p a i

/-- One step of the division by a polynomial of the degree 'deg'. -/
def stp (p : Int) (b : Co) (deg top : Nat) (c : Co) : Co := fun i => if top ≤ i + deg ∧ i ≤ top then (c i - c top * b (i + deg - top)) % p else c i
/-- .. until its round k. -/
def stpK (p : Int) (b : Co) (deg top k : Nat) (c : Co) : Co := fun i => if top ≤ i + deg ∧ i + deg < top + k then (c i - c top * b (i + deg - top)) % p else c i

theorem stpK_zero (p : Int) (b : Co) (deg top : Nat) (c : Co) : stpK p b deg top 0 c = c := by
  funext i; unfold stpK; rw [if_neg (by omega)]
theorem stpK_all (p : Int) (b : Co) (deg top : Nat) (c : Co) : stpK p b deg top (deg + 1) c = stp p b deg top c := by
  funext i; unfold stpK stp
  by_cases h : top ≤ i + deg ∧ i ≤ top
  · rw [if_pos h, if_pos (by omega)]
  · rw [if_neg h, if_neg (by omega)]
theorem stpK_succ (p : Int) (b : Co) (deg top k : Nat) (c : Co) (hk : k ≤ deg) (ht : deg ≤ top) :
    stpK p b deg top (k + 1) c = upd (stpK p b deg top k c) (top - deg + k) ((stpK p b deg top k c (top - deg + k) - c top * b k) % p) := by
  funext i
  unfold upd stpK
  by_cases e : i = top - deg + k
  · rw [if_pos e, if_pos (by omega)]
    subst e
    rw [if_neg (by omega), show top - deg + k + deg - top = k by omega]
  · rw [if_neg e]
    by_cases h : top ≤ i + deg ∧ i + deg < top + k
    · rw [if_pos h, if_pos (by omega)]
    · rw [if_neg h, if_neg (by omega)]

theorem stp_rd {p : Int} {b c : Co} {deg top n : Nat} (hp : 0 < p) (h : Rd p n c) (hn : top < n) : Rd p n (stp p b deg top c) := by
  intro i
  unfold stp
  split
  · exact ⟨Int.emod_nonneg _ (by omega), Int.emod_lt_of_pos _ hp, fun hi => by omega⟩
  · exact h i
theorem stp_rd' {p : Int} {b c : Co} {deg top : Nat} (hp : 0 < p) (hb : b deg = 1) (h : Rd p (top + 1) c) : Rd p top (stp p b deg top c) := by
  intro i
  have := stp_rd (b := b) (deg := deg) hp h (Nat.lt_succ_self top) i
  refine ⟨this.1, this.2.1, fun hi => ?_⟩
  by_cases e : i = top
  · subst e
    unfold stp
    rw [if_pos (by omega), show i + deg - i = deg by omega, hb]
    simp
  · exact this.2.2 (by omega)
theorem stp_id {p : Int} {b c : Co} {deg top n : Nat} (h : Rd p n c) (hn : n ≤ top) : stp p b deg top c = c := by
  funext i
  unfold stp
  split
  · rw [(h top).2.2 hn]; simp [h.mod i]
  · rfl

/-- The remainder, m steps. -/
def red (p : Int) (b : Co) (deg : Nat) : Nat → Co → Co
  | 0, c => c
  | m + 1, c => red p b deg m (stp p b deg (deg + m) c)

theorem red_rd {p : Int} {b : Co} {deg : Nat} (hp : 0 < p) (hb : b deg = 1) : ∀ m c, Rd p (deg + m) c → Rd p deg (red p b deg m c)
  | 0, c, h => h
  | m + 1, c, h => red_rd hp hb m _ (stp_rd' hp hb h)
theorem red_cut {p : Int} {b : Co} {deg : Nat} : ∀ k m c, Rd p (deg + m) c → red p b deg (m + k) c = red p b deg m c
  | 0, m, c, h => rfl
  | k + 1, m, c, h => by
    rw [show m + (k + 1) = (m + k) + 1 by omega, red, stp_id h (by omega), red_cut k m c h]
theorem red_low {p : Int} {b : Co} {deg n : Nat} {c : Co} (m : Nat) (h : Rd p n c) (hn : n ≤ deg) : red p b deg m c = c := by
  have := red_cut (p := p) (b := b) (deg := deg) m 0 c (h.mono (by omega))
  rwa [Nat.zero_add] at this

/-- A row of the product: x times y, shifted by i, n places. -/
def prow (p : Int) (x : Int) (y : Co) (i n : Nat) (z : Co) : Co := fun m => if i ≤ m ∧ m < i + n then (z m + x * y (m - i)) % p else z m
theorem prow_zero (p x : Int) (y : Co) (i : Nat) (z : Co) : prow p x y i 0 z = z := by funext m; unfold prow; rw [if_neg (by omega)]
theorem prow_succ (p x : Int) (y : Co) (i n : Nat) (z : Co) : prow p x y i (n + 1) z = upd (prow p x y i n z) (i + n) ((prow p x y i n z (i + n) + x * y n) % p) := by
  funext m
  unfold upd prow
  by_cases e : m = i + n
  · rw [if_pos e, if_pos (by omega)]
    subst e
    rw [if_neg (by omega), show i + n - i = n by omega]
  · rw [if_neg e]
    by_cases h : i ≤ m ∧ m < i + n
    · rw [if_pos h, if_pos (by omega)]
    · rw [if_neg h, if_neg (by omega)]
theorem prow_rd {p x : Int} {y z : Co} {i n k : Nat} (hp : 0 < p) (h : Rd p k z) (hk : i + n ≤ k) : Rd p k (prow p x y i n z) := by
  intro m
  unfold prow
  split
  · exact ⟨Int.emod_nonneg _ (by omega), Int.emod_lt_of_pos _ hp, fun hi => by omega⟩
  · exact h m
theorem prow_cut {p x : Int} {y z : Co} {i d n k : Nat} (h : Rd p k z) (hy : ∀ j, d ≤ j → y j = 0) (hd : d ≤ n) : prow p x y i n z = prow p x y i d z := by
  funext m
  unfold prow
  by_cases h1 : i ≤ m ∧ m < i + d
  · rw [if_pos h1, if_pos (by omega)]
  · rw [if_neg h1]
    split
    · rw [hy (m - i) (by omega)]; simp [h.mod m]
    · rfl
theorem prow_nil {p : Int} {y z : Co} {i n k : Nat} (h : Rd p k z) : prow p 0 y i n z = z := by
  funext m
  unfold prow
  split
  · simp [h.mod m]
  · rfl
/-- The product after i rows. -/
def prod (p : Int) (x y : Co) (n : Nat) : Nat → Co
  | 0 => fun _ => 0
  | i + 1 => prow p (x i) y i n (prod p x y n i)
theorem prod_rd {p : Int} {x y : Co} {n : Nat} (hp : 0 < p) (k : Nat) : ∀ i, i + n ≤ k + 1 → Rd p k (prod p x y n i)
  | 0, _ => fun m => ⟨Int.le_refl _, hp, fun _ => rfl⟩
  | i + 1, h => prow_rd hp (prod_rd hp k i (by omega)) (by omega)
theorem prod_cut {p : Int} {x y : Co} {d n : Nat} (hp : 0 < p) (hx : ∀ j, d ≤ j → x j = 0) (hy : ∀ j, d ≤ j → y j = 0) (hd : d ≤ n) : ∀ i, prod p x y n i = prod p x y d (min i d)
  | 0 => by simp [prod]
  | i + 1 => by
    have ih := prod_cut hp hx hy hd i
    rw [prod, ih]
    have hr : Rd p (2 * n + 2 * d) (prod p x y d (min i d)) := prod_rd hp _ _ (by omega)
    by_cases h : i < d
    · rw [prow_cut hr hy hd, show min i d = i by omega, show min (i + 1) d = i + 1 by omega, prod]
    · rw [hx i (by omega), prow_nil hr, show min i d = d by omega, show min (i + 1) d = d by omega]

/-- The element with the digits c. -/
def elm (p deg : Nat) (c : Co) : Int := num p c deg 0

/-- The sum of two elements, and their difference. -/
def fadd (p deg a b : Nat) : Int := num p (fun i => (dg p a i + dg p b i) % p) deg 0
def fsub (p deg a b : Nat) : Int := num p (fun i => (dg p a i - dg p b i) % p) deg 0
/-- Their product. -/
def fmul (p deg : Nat) (f : Co) (a b : Nat) : Int := num p (red p f deg (deg - 1) (prod p (dg p a) (dg p b) deg deg)) deg 0

/-- There is no divisor. -/
def Irr (p deg : Nat) (f : Co) : Prop := ∀ d, 1 ≤ d → 2 * d ≤ deg → ∀ n, n < p ^ d → num p (red p (wt p n d) d (deg + 1 - d) f) d 0 ≠ 0
end Go.Proofs.Ytmlcdbjibngnkaa
