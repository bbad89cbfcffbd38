/- Primitive roots and squares modulo a prime. -/
import Derived.Test.YtocjdjgfadaljaaRt
import Derived.Test.YtocjdjgfadaljaaSq2
namespace Go.Proofs.Ytocjdjgfadaljaa
open Go.RowKit
set_option linter.unusedVariables false

theorem inj_le {n m : Nat} (f : Nat → Nat) (hf : ∀ i, i < n → f i < m) (hi : ∀ i j, i < j → j < n → f i ≠ f j) : n ≤ m := by
  by_cases c : n ≤ m
  · exact c
  · obtain ⟨i, j, h1, h2, h3⟩ := php m f (fun i hi => hf i (by omega))
    exact absurd h3 (hi i j h1 (by omega))
theorem Pr.cop {p a : Nat} (hp : Pr p) (h : ¬ p ∣ a) : Nat.Coprime p a := by
  have g1 := Nat.gcd_dvd_left p a
  have g2 := Nat.gcd_dvd_right p a
  have g3 := Nat.le_of_dvd (by have := hp.1; omega) g1
  by_cases c : Nat.gcd p a = p
  · rw [c] at g2; exact absurd g2 h
  · by_cases d : Nat.gcd p a = 1
    · exact d
    · have g4 : 0 < Nat.gcd p a := Nat.gcd_pos_of_pos_left _ (by have := hp.1; omega)
      exact absurd g1 (hp.2.2 _ (by omega) (by omega))
theorem Pr.mul {p a b : Nat} (hp : Pr p) (h : p ∣ a * b) : p ∣ a ∨ p ∣ b := by
  by_cases c : p ∣ a
  · exact .inl c
  · exact .inr ((hp.cop c).dvd_of_dvd_mul_left h)
theorem Pr.pow {p a : Nat} (hp : Pr p) : ∀ k, p ∣ a ^ k → p ∣ a
  | 0, h => by
    have a := Nat.le_of_dvd (by simp) h
    have b := hp.1
    rw [Nat.pow_zero] at a
    omega
  | k + 1, h => by
    rw [Nat.pow_succ] at h
    rcases hp.mul h with h | h
    · exact hp.pow k h
    · exact h
theorem dvd_sub_of {p x y : Nat} (h : x % p = y % p) (hl : y ≤ x) : p ∣ x - y := by
  refine ⟨x / p - y / p, ?_⟩
  have a := Nat.div_add_mod x p
  have b := Nat.div_add_mod y p
  rw [Nat.mul_sub]
  omega
/-- g is a primitive root. -/
structure Rtp (p g : Nat) : Prop where
  pr : Pr p
  g1 : 1 ≤ g
  gp : g < p
  one : g ^ (p - 1) % p = 1
  low : ∀ k, 1 ≤ k → k < p - 1 → g ^ k % p ≠ 1
theorem not_dvd {p x : Nat} (h1 : 1 ≤ x) (h2 : x < p) : ¬ p ∣ x := fun h => by
  have := Nat.le_of_dvd h1 h
  omega
theorem Rtp.inj {p g : Nat} (h : Rtp p g) {i j : Nat} (hij : i < j) (hj : j < p - 1) : g ^ i % p ≠ g ^ j % p := fun e => by
  have p2 := h.pr.1
  have hle : g ^ i ≤ g ^ j := Nat.pow_le_pow_right h.g1 (by omega)
  have d := dvd_sub_of e.symm hle
  have e2 : g ^ j - g ^ i = g ^ i * (g ^ (j - i) - 1) := by
    rw [Nat.mul_sub, ← Nat.pow_add, Nat.mul_one, show i + (j - i) = j by omega]
  rw [e2] at d
  rcases h.pr.mul d with d | d
  · exact not_dvd h.g1 h.gp (h.pr.pow _ d)
  · have l : 1 ≤ g ^ (j - i) := Nat.one_le_pow _ _ h.g1
    obtain ⟨c, hc⟩ := d
    have : g ^ (j - i) = 1 + p * c := by omega
    apply h.low (j - i) (by omega) (by omega)
    rw [this, Nat.add_mul_mod_self_left, Nat.mod_eq_of_lt (by omega)]
theorem Rtp.pos {p g : Nat} (h : Rtp p g) (k : Nat) : 1 ≤ g ^ k % p := by
  by_cases c : g ^ k % p = 0
  · exact absurd (h.pr.pow k (Nat.dvd_of_mod_eq_zero c)) (not_dvd h.g1 h.gp)
  · omega
theorem Rtp.all {p g : Nat} (h : Rtp p g) (x : Nat) (x1 : 1 ≤ x) (xp : x < p) : ∃ k, g ^ k % p = x := by
  by_cases c : ∃ k, g ^ k % p = x
  · exact c
  · exfalso
    have p2 := h.pr.1
    have ne : ∀ k, g ^ k % p ≠ x := fun k e => c ⟨k, e⟩
    have lt : ∀ k, g ^ k % p < p := fun k => Nat.mod_lt _ (by omega)
    have := inj_le (n := p - 1) (m := p - 2) (fun k => if g ^ k % p = p - 1 then x - 1 else g ^ k % p - 1) (fun i hi => by
      have a1 := h.pos i
      have a2 := lt i
      have a3 := ne i
      show (if g ^ i % p = p - 1 then x - 1 else g ^ i % p - 1) < p - 2
      split <;> omega) (fun i j hij hj => by
      have a1 := h.pos i
      have a3 := ne i
      have b1 := h.pos j
      have b3 := ne j
      have d := h.inj hij hj
      show (if g ^ i % p = p - 1 then x - 1 else g ^ i % p - 1) ≠ (if g ^ j % p = p - 1 then x - 1 else g ^ j % p - 1)
      split <;> split <;> omega)
    omega
theorem Rtp.fermat {p g : Nat} (h : Rtp p g) (x : Nat) (hx : ¬ p ∣ x) : x ^ (p - 1) % p = 1 := by
  have p2 := h.pr.1
  have hm : 1 ≤ x % p := by
    by_cases c : x % p = 0
    · exact absurd (Nat.dvd_of_mod_eq_zero c) hx
    · omega
  obtain ⟨k, hk⟩ := h.all (x % p) hm (Nat.mod_lt _ (by omega))
  rw [Nat.pow_mod, ← hk, ← Nat.pow_mod, ← Nat.pow_mul, Nat.mul_comm, Nat.pow_mul, Nat.pow_mod, h.one, Nat.one_pow, Nat.mod_eq_of_lt (by omega)]
/-- a is the square of a number. -/
def Sqp (p a : Nat) : Prop := ∃ x, x < p ∧ x * x % p = a
theorem Sqp.half {p g : Nat} (h : Rtp p g) {a c : Nat} (hc : p - 1 = 2 * c) (ha : 1 ≤ a) (hs : Sqp p a) : a ^ c % p = 1 := by
  obtain ⟨x, hx, rfl⟩ := hs
  have hd : ¬ p ∣ x := fun ⟨d, e⟩ => by
    subst e
    rw [Nat.mul_assoc, Nat.mul_mod_right] at ha
    omega
  have := h.fermat x hd
  rw [hc, Nat.pow_mul, Nat.pow_mod] at this
  rw [← Nat.pow_two]
  exact this
theorem Rtp.notSq {p g : Nat} (h : Rtp p g) (hp : p ≠ 2) (ho : p % 2 = 1) : ¬ Sqp p g := fun hs => by
  have p2 := h.pr.1
  exact h.low ((p - 1) / 2) (by omega) (by omega) (Sqp.half h (c := (p - 1) / 2) (by omega) h.g1 hs)
theorem Pr.odd {p : Nat} (hp : Pr p) (h : p ≠ 2) : p % 2 = 1 := by
  have p2 := hp.1
  by_cases c : p % 2 = 1
  · exact c
  · exact absurd (Nat.dvd_of_mod_eq_zero (show p % 2 = 0 by omega)) (hp.2.2 2 (by omega) (by omega))
theorem Sqp.mul {p a b : Nat} (hp : 0 < p) (ha : Sqp p a) (hb : Sqp p b) : Sqp p (a * b % p) := by
  obtain ⟨x, hx, rfl⟩ := ha
  obtain ⟨y, hy, rfl⟩ := hb
  refine ⟨x * y % p, Nat.mod_lt _ hp, ?_⟩
  rw [← Nat.mul_mod, ← Nat.mul_mod, show x * y * (x * y) = x * x * (y * y) by rw [Nat.mul_assoc, Nat.mul_assoc, Nat.mul_left_comm y x y]]
theorem mul_pos_mod {p a b : Nat} (hp : Pr p) (a1 : 1 ≤ a) (ap : a < p) (b1 : 1 ≤ b) (bp : b < p) : 1 ≤ a * b % p := by
  by_cases c : a * b % p = 0
  · rcases hp.mul (Nat.dvd_of_mod_eq_zero c) with d | d
    · exact absurd d (not_dvd a1 ap)
    · exact absurd d (not_dvd b1 bp)
  · omega
theorem Rtp.notSqMul {p g a : Nat} (h : Rtp p g) (hp : p ≠ 2) (a1 : 1 ≤ a) (ap : a < p) (ha : Sqp p a) : ¬ Sqp p (a * g % p) := fun hs => by
  have p2 := h.pr.1
  have ho := h.pr.odd hp
  have e1 := Sqp.half h (c := (p - 1) / 2) (by omega) a1 ha
  have e2 := Sqp.half h (c := (p - 1) / 2) (by omega) (mul_pos_mod h.pr a1 ap h.g1 h.gp) hs
  rw [← Nat.pow_mod, Nat.mul_pow, Nat.mul_mod, e1, Nat.one_mul, Nat.mod_mod] at e2
  exact h.low ((p - 1) / 2) (by omega) (by omega) e2
/-- Each square is the square of a number up to half of p. -/
theorem sq_low {p a : Nat} (ho : p % 2 = 1) (ha : 1 ≤ a) (hs : Sqp p a) : ∃ y, 1 ≤ y ∧ y ≤ (p - 1) / 2 ∧ y * y % p = a := by
  obtain ⟨x, hx, rfl⟩ := hs
  have x0 : x ≠ 0 := fun e => by subst e; simp at ha
  by_cases c : x ≤ (p - 1) / 2
  · exact ⟨x, by omega, c, rfl⟩
  · obtain ⟨y, hy⟩ : ∃ y, p = y + x := ⟨p - x, by omega⟩
    obtain ⟨d, rfl⟩ : ∃ d, x = y + d := ⟨x - y, by omega⟩
    refine ⟨y, by omega, by omega, ?_⟩
    have e : (y + d) * (y + d) = y * y + p * d := by rw [hy]; grind
    rw [e, Nat.add_mul_mod_self_left]
theorem sq_inj {p x y : Nat} (hp : Pr p) (x1 : 1 ≤ x) (hxy : x < y) (hy : y ≤ (p - 1) / 2) : x * x % p ≠ y * y % p := fun e => by
  have p2 := hp.1
  have hl : x * x ≤ y * y := Nat.mul_le_mul (by omega) (by omega)
  have d := dvd_sub_of e.symm hl
  have e2 : y * y - x * x = (y - x) * (y + x) := by
    obtain ⟨t, rfl⟩ : ∃ t, y = x + t := ⟨y - x, by omega⟩
    rw [show x + t - x = t by omega, show (x + t) * (x + t) = x * x + t * (x + t + x) by grind]
    omega
  rw [e2] at d
  rcases hp.mul d with d | d
  · exact not_dvd (by omega) (by omega) d
  · exact not_dvd (by omega) (by omega) d
/-- The squares, as natural numbers. -/
def nsq (p : Nat) : List Nat := (List.range p).filter (fun a => decide (1 ≤ a) && seen p p a)
theorem seen_iff {p a : Nat} : seen p p a = true ↔ Sqp p a := by
  unfold seen Sqp
  simp only [List.any_eq_true, List.mem_range, beq_iff_eq]
  constructor
  · rintro ⟨x, h1, h2⟩
    exact ⟨x, h1, by exact_mod_cast h2⟩
  · rintro ⟨x, h1, h2⟩
    exact ⟨x, h1, by exact_mod_cast h2⟩
theorem mem_nsq {p a : Nat} : a ∈ nsq p ↔ a < p ∧ 1 ≤ a ∧ Sqp p a := by
  unfold nsq
  rw [List.mem_filter, List.mem_range, Bool.and_eq_true, decide_eq_true_eq, seen_iff]
theorem sqs_nsq (p : Nat) : sqs p p = (nsq p).map (fun a : Nat => (a : Int)) := by
  unfold sqs nsq
  rw [Int.toNat_natCast]
theorem nsq_len {p : Nat} (hp : Pr p) (h2 : p ≠ 2) : (nsq p).length = (p - 1) / 2 := by
  have p2 := hp.1
  have ho := hp.odd h2
  have pw : (nsq p).Pairwise (· < ·) := List.Pairwise.filter _ List.pairwise_lt_range
  have pw' := List.pairwise_iff_getElem.1 pw
  apply Nat.le_antisymm
  · have R : ∀ i, i < (nsq p).length → ∃ y, 1 ≤ y ∧ y ≤ (p - 1) / 2 ∧ y * y % p = (nsq p).getD i 0 := fun i hi => by
      have m := mem_nsq.1 (List.getElem_mem hi)
      rw [show (nsq p).getD i 0 = (nsq p)[i] by simp [List.getD, List.getElem?_eq_getElem hi]]
      exact sq_low ho m.2.1 m.2.2
    refine inj_le (fun i => if h : i < (nsq p).length then (R i h).choose - 1 else 0) (fun i hi => ?_) (fun i j hij hj => ?_)
    · have s := (R i hi).choose_spec
      show (if h : i < (nsq p).length then (R i h).choose - 1 else 0) < _
      rw [dif_pos hi]; omega
    · have hi : i < (nsq p).length := by omega
      have s := (R i hi).choose_spec
      have t := (R j hj).choose_spec
      show (if h : i < (nsq p).length then (R i h).choose - 1 else 0) ≠ (if h : j < (nsq p).length then (R j h).choose - 1 else 0)
      rw [dif_pos hi, dif_pos hj]
      intro e
      have e' : (R i hi).choose = (R j hj).choose := by omega
      have s3 := s.2.2
      rw [e', t.2.2] at s3
      have := pw' i j hi hj hij
      simp only [List.getD, List.getElem?_eq_getElem hi, List.getElem?_eq_getElem hj, Option.getD_some] at s3
      omega
  · have M : ∀ i, i < (p - 1) / 2 → (i + 1) * (i + 1) % p ∈ nsq p := fun i hi => by
      refine mem_nsq.2 ⟨Nat.mod_lt _ (by omega), ?_, i + 1, by omega, rfl⟩
      exact mul_pos_mod hp (by omega) (by omega) (by omega) (by omega)
    refine inj_le (fun i => (nsq p).idxOf ((i + 1) * (i + 1) % p)) (fun i hi => List.idxOf_lt_length_of_mem (M i hi)) (fun i j hij hj e => ?_)
    have a := List.getElem_idxOf (List.idxOf_lt_length_of_mem (M i (by omega)))
    have b := List.getElem_idxOf (List.idxOf_lt_length_of_mem (M j hj))
    simp only [e] at a
    rw [b] at a
    exact sq_inj hp (by omega) (show i + 1 < j + 1 by omega) (by omega) a.symm
/-- What a primitive root is, in natural numbers. -/
theorem Rtp.of {p : Nat} {g : Int} (hp : Pr p) (h1 : 1 ≤ g) (h2 : g < p) (h : IsOrd g p (p - 1)) : ∃ n : Nat, g = n ∧ Rtp p n := by
  have p2 := hp.1
  obtain ⟨n, rfl⟩ : ∃ n : Nat, g = n := ⟨g.toNat, by omega⟩
  obtain ⟨a, b, c, d⟩ := h
  have o : (1 : Int) % (p : Int) = 1 := Int.emod_eq_of_lt (by omega) (by omega)
  rw [o] at c d
  refine ⟨n, rfl, hp, by omega, by omega, ?_, fun k k1 k2 e => ?_⟩
  · rw [show ((p : Int) - 1).toNat = p - 1 by omega] at c
    exact_mod_cast c
  · exact d k k1 (by omega) (by exact_mod_cast e)
theorem isSq_nat {p a : Nat} (hp1 : 1 ≤ p) (hp2 : p ≤ 1000) (ha : a < p) (a1 : 1 ≤ a) : isSq a p = true ↔ Sqp p a := by
  unfold isSq
  rw [decide_eq_true_eq, mem_sqAll]
  simp only [Int.toNat_natCast, seen_iff]
  constructor
  · exact fun h => h.2.2
  · exact fun h => ⟨⟨by omega, by omega, by omega, by omega⟩, by omega, h⟩
end Go.Proofs.Ytocjdjgfadaljaa
