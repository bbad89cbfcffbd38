/- A table for each field: powers of a primitive element. Mathematics alone. -/
import Derived.Test.YtmlcdbjibngnkaaFo
namespace Go.Proofs.Ytmlcdbjibngnkaa
open Go.RowKit
set_option linter.unusedVariables false

/-- Polynomials as lists of digits, the lowest one first, and their products. -/
def addR (p x : Nat) : List Nat → List Nat → List Nat
  | [], zs => zs
  | y :: ys, [] => (x * y % p) :: addR p x ys []
  | y :: ys, z :: zs => ((z + x * y) % p) :: addR p x ys zs
def mulL (p : Nat) : List Nat → List Nat → List Nat
  | [], _ => []
  | x :: xs, ys => addR p x ys (0 :: mulL p xs ys)
/-- The digits of a number. -/
def dgL (p : Nat) : Nat → Nat → List Nat
  | 0, _ => []
  | n + 1, a => (a % p) :: dgL p n (a / p)
/-- Lists with the highest digit first: a step of the division, m steps, the number. -/
def subR (p h : Nat) : List Nat → List Nat → List Nat
  | _, [] => []
  | [], t => t
  | b :: bs, x :: t => ((x + (p - h) * b) % p) :: subR p h bs t
def remL (p : Nat) (br : List Nat) : Nat → List Nat → List Nat
  | 0, c => c
  | _ + 1, [] => []
  | m + 1, h :: t => remL p br m (subR p h br t)
def numL (p : Nat) (c : List Nat) : Nat := c.foldl (fun n d => n * p + d) 0
/-- The product of two elements; br are the lower digits of the polynomial, the highest one first. -/
def mulN (p k : Nat) (br : List Nat) (a b : Nat) : Nat := numL p (remL p br (k - 1) (mulL p (dgL p k a) (dgL p k b)).reverse)

def co (l : List Nat) : Co := fun i => ((l.getD i 0 : Nat) : Int)
def cr (c : List Nat) : Co := fun i => if i < c.length then ((c.getD (c.length - 1 - i) 0 : Nat) : Int) else 0

theorem gd_out {l : List Nat} {i : Nat} (h : l.length ≤ i) : l.getD i 0 = 0 := by
  rw [List.getD_eq_getElem?_getD, List.getElem?_eq_none h]; rfl
theorem gd_in {l : List Nat} {i : Nat} (h : i < l.length) : l.getD i 0 = l[i] := by
  rw [List.getD_eq_getElem?_getD, List.getElem?_eq_getElem h]; rfl

theorem dgL_len (p : Nat) : ∀ n a, (dgL p n a).length = n
  | 0, _ => rfl
  | n + 1, a => by simp [dgL, dgL_len p n]
theorem dgL_getD (p : Nat) : ∀ n a i, i < n → (dgL p n a).getD i 0 = a / p ^ i % p
  | 0, _, _, h => by omega
  | n + 1, a, 0, _ => by simp [dgL]
  | n + 1, a, i + 1, h => by
    have := dgL_getD p n (a / p) i (by omega)
    rw [dgL, List.getD_cons_succ, this, Nat.div_div_eq_div_mul, Nat.pow_succ, Nat.mul_comm p]
theorem dgL_co (p n a : Nat) (hp : 0 < p) (h : a < p ^ n) : co (dgL p n a) = dg p a := by
  funext i
  unfold co
  by_cases hi : i < n
  · rw [dgL_getD p n a i hi]; rfl
  · rw [(dg_rd p a n hp h i).2.2 (by omega), gd_out (by rw [dgL_len]; omega)]; rfl

/-- The sum of the products whose places add up to m. -/
def cv (x y : Co) (n : Nat) (m : Nat) : Nat → Int
  | 0 => 0
  | i + 1 => cv x y n m i + if i ≤ m ∧ m < i + n then x i * y (m - i) else 0
theorem prod_cv (p : Int) (x y : Co) (n m : Nat) : ∀ i, prod p x y n i m % p = cv x y n m i % p
  | 0 => rfl
  | i + 1 => by
    have ih := prod_cv p x y n m i
    rw [prod, prow, cv]
    split
    · rw [Int.emod_emod_of_dvd _ (Int.dvd_refl p), Int.add_emod, ih, ← Int.add_emod]
    · rw [Int.add_zero]; exact ih
theorem cv_shift (x y : Co) (n m : Nat) : ∀ i, cv x y n m (i + 1) = (if m < n then x 0 * y m else 0) + if 1 ≤ m then cv (fun j => x (j + 1)) y n (m - 1) i else 0
  | 0 => by
    simp only [cv, Nat.zero_le, true_and, Nat.zero_add, Nat.sub_zero, Int.zero_add]
    split <;> split <;> simp
  | i + 1 => by
    rw [cv, cv_shift x y n m i]
    by_cases hm : 1 ≤ m
    · rw [if_pos hm, if_pos hm]
      simp only [cv]
      rw [show m - (i + 1) = m - 1 - i by omega]
      by_cases h : i + 1 ≤ m ∧ m < i + 1 + n
      · rw [if_pos h, if_pos (show i ≤ m - 1 ∧ m - 1 < i + n by omega), Int.add_assoc]
      · rw [if_neg h, if_neg (show ¬ (i ≤ m - 1 ∧ m - 1 < i + n) by omega), Int.add_assoc]
    · rw [if_neg hm, if_neg hm, if_neg (show ¬ (i + 1 ≤ m ∧ m < i + 1 + n) by omega)]; simp
theorem addR_co (p x : Nat) : ∀ (ys zs : List Nat) (m : Nat), ((addR p x ys zs).getD m 0) % p = (zs.getD m 0 + if m < ys.length then x * ys.getD m 0 else 0) % p
  | [], zs, m => by simp [addR]
  | y :: ys, [], 0 => by simp [addR]
  | y :: ys, [], m + 1 => by
    have := addR_co p x ys [] m
    simp only [addR, List.getD_cons_succ, List.length_cons, Nat.add_lt_add_iff_right]
    rw [this]; simp
  | y :: ys, z :: zs, 0 => by simp [addR]
  | y :: ys, z :: zs, m + 1 => by
    have := addR_co p x ys zs m
    simp only [addR, List.getD_cons_succ, List.length_cons, Nat.add_lt_add_iff_right]
    exact this
theorem mulL_cv (p : Nat) : ∀ (xs ys : List Nat) (m : Nat), (((mulL p xs ys).getD m 0 : Nat) : Int) % p = cv (co xs) (co ys) ys.length m xs.length % p
  | [], ys, m => by simp [mulL, cv]
  | x :: xs, ys, m => by
    have h := addR_co p x ys (0 :: mulL p xs ys) m
    have h' : (((addR p x ys (0 :: mulL p xs ys)).getD m 0 : Nat) : Int) % p = (((0 :: mulL p xs ys).getD m 0 : Nat) + (if m < ys.length then (x : Int) * (ys.getD m 0 : Nat) else 0)) % p := by
      have := congrArg (fun n : Nat => (n : Int)) h
      push_cast at this
      rw [this]
      split <;> simp
    rw [mulL, h', List.length_cons, cv_shift]
    have e0 : (if m < ys.length then (co (x :: xs)) 0 * co ys m else 0) = (if m < ys.length then (x : Int) * (ys.getD m 0 : Nat) else 0) := rfl
    have e1 : (fun j => co (x :: xs) (j + 1)) = co xs := by funext j; simp [co]
    rw [e0, e1]
    cases m with
    | zero => simp
    | succ m =>
      rw [List.getD_cons_succ, if_pos (show 1 ≤ m + 1 by omega), Nat.add_sub_cancel, Int.add_comm, Int.add_emod, mulL_cv p xs ys m, ← Int.add_emod]
theorem addR_len (p x : Nat) : ∀ (ys zs : List Nat), (addR p x ys zs).length = max ys.length zs.length
  | [], zs => by simp [addR]
  | y :: ys, [] => by simp [addR, addR_len p x ys []]
  | y :: ys, z :: zs => by simp [addR, addR_len p x ys zs]
theorem mulL_len (p : Nat) : ∀ (xs ys : List Nat), 1 ≤ ys.length → 1 ≤ xs.length → (mulL p xs ys).length = xs.length + ys.length - 1
  | [], ys, _, h => by simp at h
  | [x], ys, hy, _ => by simp [mulL, addR_len]; omega
  | x :: x' :: xs, ys, hy, _ => by
    have := mulL_len p (x' :: xs) ys hy (by simp)
    rw [mulL, addR_len, List.length_cons, this]
    simp only [List.length_cons]
    omega
theorem addR_lt (p x : Nat) (hp : 0 < p) : ∀ (ys zs : List Nat), (∀ z ∈ zs, z < p) → ∀ z ∈ addR p x ys zs, z < p
  | [], zs, h => by simpa [addR] using h
  | y :: ys, [], h => by
    intro z hz
    rw [addR, List.mem_cons] at hz
    rcases hz with rfl | hz
    · exact Nat.mod_lt _ hp
    · exact addR_lt p x hp ys [] h z hz
  | y :: ys, z :: zs, h => by
    intro u hu
    rw [addR, List.mem_cons] at hu
    rcases hu with rfl | hu
    · exact Nat.mod_lt _ hp
    · exact addR_lt p x hp ys zs (fun v hv => h v (List.mem_cons_of_mem _ hv)) u hu
theorem mulL_lt (p : Nat) (hp : 0 < p) : ∀ (xs ys : List Nat), ∀ z ∈ mulL p xs ys, z < p
  | [], ys => by simp [mulL]
  | x :: xs, ys => by
    rw [mulL]
    exact addR_lt p x hp ys _ (fun z hz => by
      rcases List.mem_cons.1 hz with rfl | hz
      · exact hp
      · exact mulL_lt p hp xs ys z hz)
theorem getD_lt {l : List Nat} {p : Nat} (hp : 0 < p) (h : ∀ z ∈ l, z < p) (i : Nat) : l.getD i 0 < p := by
  by_cases hi : i < l.length
  · rw [gd_in hi]; exact h _ (List.getElem_mem hi)
  · rw [gd_out (by omega)]; exact hp
/-- Products of lists are products. -/
theorem mulL_prod (p : Nat) (hp : 0 < p) (xs ys : List Nat) (k : Nat) (hx : xs.length = k) (hy : ys.length = k) : co (mulL p xs ys) = prod p (co xs) (co ys) k k := by
  funext m
  have h1 := mulL_cv p xs ys m
  rw [hx, hy, ← prod_cv] at h1
  have h2 := getD_lt hp (mulL_lt p hp xs ys) m
  have h3 := prod_rd (p := (p : Int)) (x := co xs) (y := co ys) (n := k) (by omega) (2 * k) k (by omega) m
  have h4 : (co (mulL p xs ys) m) % p = co (mulL p xs ys) m := Int.emod_eq_of_lt (by unfold co; omega) (by unfold co; omega)
  have h5 : prod p (co xs) (co ys) k k m % p = prod p (co xs) (co ys) k k m := Int.emod_eq_of_lt h3.1 h3.2.1
  rw [← h4, ← h5]
  exact h1
theorem cr_rev (l : List Nat) : cr l.reverse = co l := by
  funext i
  unfold cr co
  rw [List.length_reverse]
  split
  · rename_i h
    congr 1
    rw [List.getD_eq_getElem?_getD, List.getD_eq_getElem?_getD, List.getElem?_reverse (by omega), show l.length - 1 - (l.length - 1 - i) = i by omega]
  · rename_i h
    rw [gd_out (by omega)]; rfl

theorem subR_len (p h : Nat) : ∀ bs t : List Nat, (subR p h bs t).length = t.length
  | _, [] => by cases ‹List Nat› <;> simp [subR]
  | [], x :: t => by simp [subR]
  | b :: bs, x :: t => by simp [subR, subR_len p h bs t]
theorem subR_getD (p h : Nat) : ∀ (bs t : List Nat) (i : Nat), i < t.length → (subR p h bs t).getD i 0 = if i < bs.length then (t.getD i 0 + (p - h) * bs.getD i 0) % p else t.getD i 0
  | _, [], i, hi => by simp at hi
  | [], x :: t, i, hi => by simp [subR]
  | b :: bs, x :: t, 0, hi => by simp [subR]
  | b :: bs, x :: t, i + 1, hi => by
    have := subR_getD p h bs t i (by simpa using hi)
    simp only [subR, List.getD_cons_succ, List.length_cons, Nat.add_lt_add_iff_right]
    exact this
theorem sub_mod (p h b : Nat) (x : Nat) (hh : h ≤ p) : (((x + (p - h) * b) % p : Nat) : Int) = ((x : Int) - h * b) % p := by
  have e : ((x : Int) - h * b) % p = ((x : Int) - h * b + p * b) % p := by rw [Int.add_mul_emod_self_left]
  rw [e]
  have e2 : (x : Int) - h * b + p * b = ((x + (p - h) * b : Nat) : Int) := by
    push_cast
    rw [Int.ofNat_sub hh, Int.sub_mul]; omega
  rw [e2]
  rfl
/-- One step. -/
theorem subR_stp (p : Nat) (hp : 0 < p) (b : Co) (br : List Nat) (hb : ∀ j, j < br.length → ((br.getD j 0 : Nat) : Int) = b (br.length - 1 - j)) (h1 : b br.length = 1) (h : Nat) (t : List Nat) (hh : h < p) (hd : br.length ≤ t.length) :
    cr (subR p h br t) = stp p b br.length t.length (cr (h :: t)) := by
  have etop : cr (h :: t) t.length = h := by
    unfold cr
    rw [List.length_cons, if_pos (by omega), show t.length + 1 - 1 - t.length = 0 by omega]; rfl
  funext i
  unfold stp
  by_cases hi : i < t.length
  · have ei : cr (h :: t) i = ((t.getD (t.length - 1 - i) 0 : Nat) : Int) := by
      unfold cr
      rw [List.length_cons, if_pos (by omega), show t.length + 1 - 1 - i = (t.length - 1 - i) + 1 by omega, List.getD_cons_succ]
    rw [etop, ei]
    have el : cr (subR p h br t) i = (((subR p h br t).getD (t.length - 1 - i) 0 : Nat) : Int) := by
      unfold cr
      rw [subR_len, if_pos hi]
    rw [el, subR_getD p h br t _ (by omega)]
    by_cases hc : t.length ≤ i + br.length
    · rw [if_pos (by omega), if_pos ⟨hc, by omega⟩, sub_mod p h _ _ (Nat.le_of_lt hh), hb _ (by omega), show br.length - 1 - (t.length - 1 - i) = i + br.length - t.length by omega]
    · rw [if_neg (by omega), if_neg (by omega)]
  · have el : cr (subR p h br t) i = 0 := by
      unfold cr
      rw [subR_len, if_neg hi]
    rw [el]
    by_cases e : i = t.length
    · subst e
      rw [if_pos (by omega), etop, show t.length + br.length - t.length = br.length by omega, h1]
      simp
    · rw [if_neg (by omega)]
      unfold cr
      rw [List.length_cons, if_neg (by omega)]
theorem subR_lt (p h : Nat) (hp : 0 < p) : ∀ (bs t : List Nat), (∀ z ∈ t, z < p) → ∀ z ∈ subR p h bs t, z < p
  | _, [], ht => by cases ‹List Nat› <;> simp [subR]
  | [], x :: t, ht => by simpa [subR] using ht
  | b :: bs, x :: t, ht => by
    intro z hz
    rw [subR, List.mem_cons] at hz
    rcases hz with rfl | hz
    · exact Nat.mod_lt _ hp
    · exact subR_lt p h hp bs t (fun v hv => ht v (List.mem_cons_of_mem _ hv)) z hz
theorem remL_red (p : Nat) (hp : 0 < p) (b : Co) (br : List Nat) (hb : ∀ j, j < br.length → ((br.getD j 0 : Nat) : Int) = b (br.length - 1 - j)) (h1 : b br.length = 1) :
    ∀ (m : Nat) (c : List Nat), c.length = br.length + m → (∀ z ∈ c, z < p) → cr (remL p br m c) = red p b br.length m (cr c) ∧ (remL p br m c).length = br.length
  | 0, c, hl, hc => ⟨rfl, hl⟩
  | m + 1, [], hl, hc => by simp at hl
  | m + 1, h :: t, hl, hc => by
    have hl' : t.length = br.length + m := by simp at hl; omega
    have ih := remL_red p hp b br hb h1 m (subR p h br t) (by rw [subR_len]; exact hl') (subR_lt p h hp br t (fun z hz => hc z (List.mem_cons_of_mem _ hz)))
    rw [remL, red, ← hl', ← subR_stp p hp b br hb h1 h t (hc h (List.mem_cons_self ..)) (by omega)]
    exact ih
theorem numL_num (p : Nat) (c : List Nat) : ∀ (n : Nat), n = c.length → ((numL p c : Nat) : Int) = num p (cr c) n 0 := by
  have key : ∀ (c : List Nat) (a : Nat), c.foldl (fun n d => n * p + d) a = a * p ^ c.length + numL p c := by
    intro c
    induction c with
    | nil => intro a; simp [numL]
    | cons d c ih =>
      intro a
      have e : numL p (d :: c) = d * p ^ c.length + numL p c := by
        conv => lhs; unfold numL
        rw [List.foldl_cons, ih, Nat.zero_mul, Nat.zero_add]
      rw [List.foldl_cons, ih, e, List.length_cons, Nat.pow_succ, Nat.add_mul, Nat.mul_assoc, Nat.mul_comm p, Nat.add_assoc]
  have top : ∀ (c : Co) (n i : Nat), num p c (n + 1) i = num p c n i + c (i + n) * (p : Int) ^ n := by
    intro c n
    induction n with
    | zero => intro i; simp [num]
    | succ n ih =>
      intro i
      rw [num, ih (i + 1), num, Int.mul_add, ← Int.add_assoc, show i + 1 + n = i + (n + 1) by omega, Int.pow_succ, Int.mul_comm (p : Int) (c _ * _), Int.mul_assoc]
  intro n hn
  subst hn
  induction c with
  | nil => rfl
  | cons d c ih =>
    have e : numL p (d :: c) = d * p ^ c.length + numL p c := by
      conv => lhs; unfold numL
      rw [List.foldl_cons, key, Nat.zero_mul, Nat.zero_add]
    rw [e, List.length_cons, top, Nat.zero_add]
    have e1 : num p (cr (d :: c)) c.length 0 = num p (cr c) c.length 0 := by
      refine num_congr _ _ _ _ _ fun j _ hj => ?_
      unfold cr
      rw [List.length_cons, if_pos (by omega), if_pos (by omega), show c.length + 1 - 1 - j = (c.length - 1 - j) + 1 by omega, List.getD_cons_succ]
    have e2 : cr (d :: c) c.length = d := by
      unfold cr
      rw [List.length_cons, if_pos (by omega), show c.length + 1 - 1 - c.length = 0 by omega]; rfl
    rw [e1, e2, ← ih]
    push_cast
    omega
end Go.Proofs.Ytmlcdbjibngnkaa
