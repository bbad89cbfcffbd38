/- Each field has a primitive element: a table. Mathematics alone. -/
import Derived.Test.YtmlcdbjibngnkaaTd
namespace Go.Proofs.Ytmlcdbjibngnkaa
open Go.RowKit
set_option linter.unusedVariables false

theorem num_rd_ext {p : Nat} {c d : Co} (h : c = d) (n : Nat) : num p c n 0 = num p d n 0 := by rw [h]
/-- Every list of k digits is that of a number. -/
theorem dgL_of (p : Nat) : ∀ (l : List Nat), (∀ z ∈ l, z < p) → ∃ n, n < p ^ l.length ∧ dgL p l.length n = l
  | [], _ => ⟨0, by simp, rfl⟩
  | x :: l, h => by
    obtain ⟨n, hn, e⟩ := dgL_of p l (fun z hz => h z (List.mem_cons_of_mem _ hz))
    have hx := h x (List.mem_cons_self ..)
    refine ⟨x + p * n, ?_, ?_⟩
    · rw [List.length_cons, Nat.pow_succ]
      have : p * (n + 1) ≤ p * p ^ l.length := Nat.mul_le_mul_left p hn
      rw [Nat.mul_add, Nat.mul_one] at this
      rw [Nat.mul_comm (p ^ _)]
      omega
    · rw [List.length_cons, dgL, Nat.add_mul_mod_self_left, Nat.mod_eq_of_lt hx, Nat.add_mul_div_left _ _ (by omega), Nat.div_eq_of_lt hx, Nat.zero_add, e]
theorem dgL_lt (p : Nat) (hp : 0 < p) : ∀ n a, ∀ z ∈ dgL p n a, z < p
  | 0, _ => by simp [dgL]
  | n + 1, a => by
    intro z hz
    rw [dgL, List.mem_cons] at hz
    rcases hz with rfl | hz
    · exact Nat.mod_lt _ hp
    · exact dgL_lt p hp n _ z hz
theorem gd_int {l : List Int} {i : Nat} (h : i < l.length) : l.getD i 0 = l[i] := by
  rw [List.getD_eq_getElem?_getD, List.getElem?_eq_getElem h]; rfl
/-- The lower digits of a field's polynomial. -/
theorem low_digits {p k : Nat} {xs : List Int} (h : FOk p k xs) : ∃ n, n < p ^ k ∧ ∀ i, i < k → (((dgL p k n).getD i 0 : Nat) : Int) = cofs xs i := by
  obtain ⟨-, -, -, h4, h5, h6, -⟩ := h
  obtain ⟨n, hn, e⟩ := dgL_of p ((xs.take k).map Int.toNat) (fun z hz => by
    obtain ⟨x, hx, rfl⟩ := List.mem_map.1 hz
    obtain ⟨i, hi, rfl⟩ := List.getElem_of_mem hx
    rw [List.length_take] at hi
    have := h6 i (by omega)
    rw [gd_int (by omega)] at this
    rw [List.getElem_take]
    omega)
  have hl : ((xs.take k).map Int.toNat).length = k := by rw [List.length_map, List.length_take]; omega
  rw [hl] at hn e
  refine ⟨n, hn, fun i hi => ?_⟩
  rw [e, gd_in (by rw [hl]; exact hi), List.getElem_map, List.getElem_take]
  have := h6 i (by omega)
  unfold cofs
  rw [gd_int (by omega)] at this ⊢
  omega
theorem rev_getD (l : List Nat) (j : Nat) (hj : j < l.length) : l.reverse.getD j 0 = l.getD (l.length - 1 - j) 0 := by
  rw [List.getD_eq_getElem?_getD, List.getD_eq_getElem?_getD, List.getElem?_reverse hj]
/-- The product of lists is the product. -/
theorem mulN_fm {p k : Nat} {f : Co} (h : Fp p k f) (br : List Nat) (hl : br.length = k) (hb : ∀ j, j < k → ((br.getD j 0 : Nat) : Int) = f (k - 1 - j)) (a b : Nat) (ha : a < p ^ k) (hb' : b < p ^ k) : mulN p k br a b = fm p k f a b := by
  have hp := h.p2
  have hk := h.k1
  have la := dgL_len p k a
  have lb := dgL_len p k b
  have e1 := mulL_prod p (by omega) (dgL p k a) (dgL p k b) k la lb
  rw [dgL_co p k a (by omega) ha, dgL_co p k b (by omega) hb'] at e1
  have e2 := remL_red p (by omega) f br (fun j hj => by rw [hl] at hj ⊢; exact hb j hj) (by rw [hl]; exact h.top) (k - 1) (mulL p (dgL p k a) (dgL p k b)).reverse (by rw [List.length_reverse, mulL_len p _ _ (by omega) (by omega), la, lb, hl]; omega) (fun z hz => mulL_lt p (by omega) _ _ z (List.mem_reverse.1 hz))
  rw [cr_rev, e1, hl] at e2
  have e3 := numL_num p (remL p br (k - 1) (mulL p (dgL p k a) (dgL p k b)).reverse) k e2.2.symm
  rw [e2.1] at e3
  unfold fm fmul
  rw [← e3]
  rfl

/-- The tests that the table makes. -/
def allB : Nat → (Nat → Bool) → Bool
  | 0, _ => true
  | n + 1, f => f n && allB n f
def anyB : Nat → (Nat → Bool) → Bool
  | 0, _ => false
  | n + 1, f => f n || anyB n f
theorem allB_iff (f : Nat → Bool) : ∀ n, allB n f = true → ∀ i, i < n → f i = true
  | 0, _, i, hi => by omega
  | n + 1, h, i, hi => by
    rw [allB, Bool.and_eq_true] at h
    by_cases e : i = n
    · rw [e]; exact h.1
    · exact allB_iff f n h.2 i (by omega)
theorem anyB_iff (f : Nat → Bool) : ∀ n, anyB n f = true → ∃ i, i < n ∧ f i = true
  | 0, h => by simp [anyB] at h
  | n + 1, h => by
    rw [anyB, Bool.or_eq_true] at h
    rcases h with h | h
    · exact ⟨n, by omega, h⟩
    · obtain ⟨i, hi, e⟩ := anyB_iff f n h
      exact ⟨i, by omega, e⟩
def memB (y : Nat) : List Nat → Bool
  | [] => false
  | x :: l => Nat.beq x y || memB y l
/-- The number first, then what is made of it. -/
def force {α : Type} (n : Nat) (f : Nat → α) : α :=
  match n with
  | 0 => f 0
  | m + 1 => f (m + 1)
theorem force_eq {α : Type} (n : Nat) (f : Nat → α) : force n f = f n := by cases n <;> rfl
def pws (p k : Nat) (br : List Nat) (g : Nat) : Nat → Nat → List Nat
  | 0, _ => []
  | n + 1, a => a :: force (mulN p k br a g) fun b => pws p k br g n b
def covB (q : Nat) (E : List Nat) : Bool := allB (q - 1) fun y => memB (y + 1) E
def pwl (p k : Nat) (br : List Nat) (g : Nat) : Nat → Nat → Nat
  | 0, a => a
  | n + 1, a => force (mulN p k br a g) fun b => pwl p k br g n b
def rootB (p k : Nat) (br : List Nat) : Bool := anyB (p ^ k) fun g => Nat.ble 1 g && (Nat.beq (pwl p k br g (p ^ k - 1) 1) 1 && covB (p ^ k) (pws p k br g (p ^ k - 1) 1))
def irrL (p k : Nat) (br : List Nat) : Bool := allB (k / 2) fun e => allB (p ^ (e + 1)) fun m => !Nat.beq (numL p (remL p (dgL p (e + 1) m).reverse (k - e) (1 :: br))) 0
def tabB (p k n : Nat) : Bool := !irrL p k (dgL p k n).reverse || rootB p k (dgL p k n).reverse

theorem allB_mk (f : Nat → Bool) : ∀ n, (∀ i, i < n → f i = true) → allB n f = true
  | 0, _ => rfl
  | n + 1, h => by rw [allB, h n (by omega), allB_mk f n (fun i hi => h i (by omega))]; rfl
theorem irrL_mk {p k : Nat} {xs : List Int} (h : FOk p k xs) (n : Nat) (hn : ∀ i, i < k → (((dgL p k n).getD i 0 : Nat) : Int) = cofs xs i) : irrL p k (dgL p k n).reverse = true := by
  have hF := Fp.of h
  have hp := hF.p2
  have hi := (irrB_iff p k (cofs xs)).1 h.2.2.2.2.2.2
  refine allB_mk _ _ fun e he => allB_mk _ _ fun m hm => ?_
  have h1 := hi (e + 1) (by omega) (by omega) m hm
  have lm := dgL_len p (e + 1) m
  have ecr : cr (1 :: (dgL p k n).reverse) = cofs xs := by
    funext i
    unfold cr
    rw [List.length_cons, List.length_reverse, dgL_len]
    by_cases hi : i < k + 1
    · rw [if_pos hi]
      by_cases e : i = k
      · subst e
        rw [show i + 1 - 1 - i = 0 by omega, hF.top]; rfl
      · rw [show k + 1 - 1 - i = (k - 1 - i) + 1 by omega, List.getD_cons_succ, rev_getD _ _ (by rw [dgL_len]; omega), dgL_len, show k - 1 - (k - 1 - i) = i by omega]
        exact hn i (by omega)
    · rw [if_neg hi, (hF.rd i).2.2 (by omega)]
  have e2 := remL_red p (by omega) (wt p m (e + 1)) (dgL p (e + 1) m).reverse (fun j hj => by
    rw [List.length_reverse, lm] at hj ⊢
    rw [rev_getD _ _ (by rw [lm]; exact hj), lm, dgL_getD p _ _ _ (by omega)]
    unfold wt
    rw [if_neg (by omega)]; rfl) (by rw [List.length_reverse, lm]; unfold wt; rw [if_pos rfl]) (k - e) (1 :: (dgL p k n).reverse) (by simp only [List.length_cons, List.length_reverse, dgL_len]; omega) (fun z hz => by
      rcases List.mem_cons.1 hz with rfl | hz
      · omega
      · exact dgL_lt p (by omega) _ _ z (List.mem_reverse.1 hz))
  rw [ecr, List.length_reverse, lm] at e2
  have e3 := numL_num p (remL p (dgL p (e + 1) m).reverse (k - e) (1 :: (dgL p k n).reverse)) (e + 1) e2.2.symm
  rw [e2.1] at e3
  unfold rval at h1
  rw [show k + 1 - (e + 1) = k - e by omega, ← e3] at h1
  have h4 : numL p (remL p (dgL p (e + 1) m).reverse (k - e) (1 :: (dgL p k n).reverse)) ≠ 0 := by omega
  cases hq : Nat.beq (numL p (remL p (dgL p (e + 1) m).reverse (k - e) (1 :: (dgL p k n).reverse))) 0 with
  | false => rfl
  | true => exact absurd (Nat.eq_of_beq_eq_true hq) h4
end Go.Proofs.Ytmlcdbjibngnkaa
