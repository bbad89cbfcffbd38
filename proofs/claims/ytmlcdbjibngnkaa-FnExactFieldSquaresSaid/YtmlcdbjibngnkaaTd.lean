/- Elements of a field: products are associative. Mathematics alone. -/
import Derived.Test.YtmlcdbjibngnkaaTc
namespace Go.Proofs.Ytmlcdbjibngnkaa
open Go.RowKit
set_option linter.unusedVariables false

/-- The digits of a number that was made of digits. -/
theorem num_dg (p : Nat) (hp : 0 < p) (c : Co) (hc : ∀ j, 0 ≤ c j ∧ c j < p) : ∀ (n i j : Nat), j < n → dg p (num p c n i).toNat j = c (i + j)
  | 0, _, _, h => by omega
  | n + 1, i, j, h => by
    have hb := (num_bd p c hp n (i + 1) hc).1
    have h0 := hc i
    obtain ⟨r, hr⟩ : ∃ r, (num p c n (i + 1)).toNat = r := ⟨_, rfl⟩
    have hr' : num p c n (i + 1) = r := by omega
    obtain ⟨d, hd⟩ : ∃ d, (c i).toNat = d := ⟨_, rfl⟩
    have hd' : c i = d := by omega
    have hdp : d < p := by omega
    have e : (num p c (n + 1) i).toNat = d + p * r := by
      rw [num, hr', hd']
      have : (d : Int) + p * r = ((d + p * r : Nat) : Int) := by push_cast; rfl
      rw [this]; rfl
    rw [e]
    unfold dg
    cases j with
    | zero =>
      rw [Nat.pow_zero, Nat.div_one, Nat.add_mul_mod_self_left, Nat.mod_eq_of_lt hdp, Nat.add_zero, hd']
    | succ j =>
      rw [Nat.pow_succ, Nat.mul_comm (p ^ j) p, ← Nat.div_div_eq_div_mul, Nat.add_mul_div_left _ _ hp, Nat.div_eq_of_lt hdp, Nat.zero_add, ← hr]
      have := num_dg p hp c hc n (i + 1) j (by omega)
      unfold dg at this
      rw [this]
      congr 1
      omega
theorem num_dg' (p : Nat) (hp : 0 < p) (c : Co) (n : Nat) (hc : Rd p n c) : dg p (num p c n 0).toNat = c := by
  have hb := num_bd p c hp n 0 (fun j => ⟨(hc j).1, (hc j).2.1⟩)
  have hr := dg_rd p (num p c n 0).toNat n hp (by omega)
  funext j
  by_cases h : j < n
  · have := num_dg p hp c (fun j => ⟨(hc j).1, (hc j).2.1⟩) n 0 j h
    rwa [Nat.zero_add] at this
  · rw [(hr j).2.2 (by omega), (hc j).2.2 (by omega)]

/-- A field's shape: what is needed of a polynomial. -/
structure Fp (p k : Nat) (f : Co) : Prop where
  p2 : 2 ≤ p
  k1 : 1 ≤ k
  rd : Rd p (k + 1) f
  top : f k = 1
theorem Fp.of {p k : Nat} {xs : List Int} (h : FOk p k xs) : Fp p k (cofs xs) := ⟨h.bd.1, h.2.1, h.rd, h.2.2.2.2.1⟩
/-- The product as a number. -/
def fm (p k : Nat) (f : Co) (a b : Nat) : Nat := (fmul p k f a b).toNat
variable {p k : Nat} {f : Co}
theorem fmul_rd (h : Fp p k f) (a b : Nat) : Rd p k (red p f k (k - 1) (prod p (dg p a) (dg p b) k k)) := by
  have := h.p2
  have := h.k1
  refine red_rd (by omega) h.top _ _ ?_
  exact prod_rd (by omega) _ k (by omega)
theorem fm_cast (h : Fp p k f) (a b : Nat) : fmul p k f a b = fm p k f a b := by
  have := h.p2
  have hb := num_bd p _ (by omega : 0 < p) k 0 (fun j => ⟨(fmul_rd h a b j).1, (fmul_rd h a b j).2.1⟩)
  unfold fm
  unfold fmul at *
  omega
theorem fm_lt (h : Fp p k f) (a b : Nat) : fm p k f a b < p ^ k := by
  have := h.p2
  have hb := num_bd p _ (by omega : 0 < p) k 0 (fun j => ⟨(fmul_rd h a b j).1, (fmul_rd h a b j).2.1⟩)
  unfold fm fmul
  omega
theorem fm_dg (h : Fp p k f) (a b : Nat) : dg p (fm p k f a b) = red p f k (k - 1) (prod p (dg p a) (dg p b) k k) := by
  have := h.p2
  exact num_dg' p (by omega) _ k (fmul_rd h a b)
theorem prod_conv (h : Fp p k f) (a b : Nat) (ha : a < p ^ k) (hb : b < p ^ k) (m : Nat) : prod p (dg p a) (dg p b) k k m % p = conv (dg p a) (dg p b) m % p := by
  have := h.p2
  have ra := dg_rd p a k (by omega) ha
  have rb := dg_rd p b k (by omega) hb
  rw [prod_cv, cv_conv _ k (fun i hi => (rb i).2.2 hi) k m _ (fun i hi => (ra i).2.2 hi)]
theorem Fp.z (h : Fp p k f) : ∀ i, k < i → f i = 0 := fun i hi => (h.rd i).2.2 (by omega)
theorem fm_cg (h : Fp p k f) (a b : Nat) (ha : a < p ^ k) (hb : b < p ^ k) : Cg p f (conv (dg p a) (dg p b)) (dg p (fm p k f a b)) := by
  have := h.p2
  rw [fm_dg h]
  exact (Cg.mod fun m => (prod_conv h a b ha hb m).symm).trans (Cg.red p f k (by omega) h.z _ _)
theorem dg_inj (hp : 0 < p) {a b : Nat} (ha : a < p ^ k) (hb : b < p ^ k) (h : dg p a = dg p b) : a = b := by
  have h1 := dg_num p hp k a 0 (by rwa [Nat.zero_add])
  have h2 := dg_num p hp k b 0 (by rwa [Nat.zero_add])
  rw [h] at h1
  rw [h1] at h2
  have h3 : a / p ^ 0 = b / p ^ 0 := Int.ofNat.inj h2
  simpa using h3
theorem fm_assoc (h : Fp p k f) (a b c : Nat) (ha : a < p ^ k) (hb : b < p ^ k) (hc : c < p ^ k) : fm p k f (fm p k f a b) c = fm p k f a (fm p k f b c) := by
  have hp := h.p2
  have l1 := fm_lt h a b
  have l2 := fm_lt h b c
  have ra := dg_rd p a k (by omega) ha
  have rc := dg_rd p c k (by omega) hc
  have c1 := (Cg.mul (fun i hi => (rc i).2.2 hi) (fm_cg h a b ha hb)).trans (fm_cg h _ c l1 hc)
  have c2 := (Cg.mul' (fun i hi => (ra i).2.2 hi) (fm_cg h b c hb hc)).trans (fm_cg h a _ ha l2)
  rw [conv_assoc'] at c1
  have c3 := c1.symm.trans c2
  exact dg_inj (by omega) (fm_lt h _ _) (fm_lt h _ _) (Cg.eq (by omega) h.z h.top (dg_rd p _ k (by omega) (fm_lt h _ _)) (dg_rd p _ k (by omega) (fm_lt h _ _)) c3)
theorem fm_comm (h : Fp p k f) (a b : Nat) (ha : a < p ^ k) (hb : b < p ^ k) : fm p k f a b = fm p k f b a := by
  have hp := h.p2
  have c1 := fm_cg h a b ha hb
  rw [conv_comm'] at c1
  have c3 := c1.symm.trans (fm_cg h b a hb ha)
  exact dg_inj (by omega) (fm_lt h _ _) (fm_lt h _ _) (Cg.eq (by omega) h.z h.top (dg_rd p _ k (by omega) (fm_lt h _ _)) (dg_rd p _ k (by omega) (fm_lt h _ _)) c3)
theorem q_big (h : Fp p k f) : 1 < p ^ k := by
  have := h.p2
  have := h.k1
  exact Nat.one_lt_pow (by omega) (by omega)
theorem dg_one (h : Fp p k f) : dg p 1 = at1 0 1 := by
  have := h.p2
  funext i
  unfold dg at1
  cases i with
  | zero => rw [Nat.pow_zero, Nat.div_one, Nat.mod_eq_of_lt (by omega)]; rfl
  | succ i =>
    rw [if_neg (by omega), Nat.div_eq_of_lt (Nat.one_lt_pow (by omega) (by omega))]; simp
theorem fm_one (h : Fp p k f) (a : Nat) (ha : a < p ^ k) : fm p k f 1 a = a := by
  have hp := h.p2
  have c1 := fm_cg h 1 a (q_big h) ha
  rw [dg_one h] at c1
  have e : conv (at1 0 1) (dg p a) = dg p a := by
    funext i
    rw [conv_at, if_pos (by omega), Int.one_mul, Nat.sub_zero]
  rw [e] at c1
  exact (dg_inj (by omega) ha (fm_lt h _ _) (Cg.eq (by omega) h.z h.top (dg_rd p _ k (by omega) ha) (dg_rd p _ k (by omega) (fm_lt h _ _)) c1)).symm
theorem fm_one' (h : Fp p k f) (a : Nat) (ha : a < p ^ k) : fm p k f a 1 = a := by rw [fm_comm h a 1 ha (q_big h)]; exact fm_one h a ha
theorem fm_zero (h : Fp p k f) (a : Nat) (ha : a < p ^ k) : fm p k f 0 a = 0 := by
  have hp := h.p2
  have hq := q_big h
  have c1 := fm_cg h 0 a (by omega) ha
  have e0 : dg p 0 = fun _ => 0 := by funext i; unfold dg; rw [Nat.zero_div, Nat.zero_mod]; rfl
  have e : conv (dg p 0) (dg p a) = dg p 0 := by
    funext i
    rw [conv_zero i _ _ (fun t _ => by rw [e0]; simp), e0]
  rw [e] at c1
  exact (dg_inj (by omega) (by omega) (fm_lt h _ _) (Cg.eq (by omega) h.z h.top (dg_rd p _ k (by omega) (by omega)) (dg_rd p _ k (by omega) (fm_lt h _ _)) c1)).symm

/-- Powers. -/
def pw (p k : Nat) (f : Co) (a : Nat) : Nat → Nat
  | 0 => 1
  | n + 1 => fm p k f (pw p k f a n) a
theorem pw_lt (h : Fp p k f) (a : Nat) : ∀ n, pw p k f a n < p ^ k
  | 0 => q_big h
  | n + 1 => fm_lt h _ _
theorem pw_one (h : Fp p k f) (a : Nat) (ha : a < p ^ k) : pw p k f a 1 = a := fm_one h a ha
theorem pw_add (h : Fp p k f) (a : Nat) (ha : a < p ^ k) (m : Nat) : ∀ n, pw p k f a (m + n) = fm p k f (pw p k f a m) (pw p k f a n)
  | 0 => (fm_one' h _ (pw_lt h a m)).symm
  | n + 1 => by
    rw [← Nat.add_assoc, pw, pw_add h a ha m n, fm_assoc h _ _ _ (pw_lt h a m) (pw_lt h a n) ha, pw]
theorem pw_mul (h : Fp p k f) (a : Nat) (ha : a < p ^ k) (m : Nat) : ∀ n, pw p k f a (m * n) = pw p k f (pw p k f a m) n
  | 0 => rfl
  | n + 1 => by rw [Nat.mul_succ, pw_add h a ha, pw_mul h a ha m n, pw]
end Go.Proofs.Ytmlcdbjibngnkaa
