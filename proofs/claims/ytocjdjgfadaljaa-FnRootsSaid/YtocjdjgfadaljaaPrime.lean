/- FactorsOf: the law; IsPrime of both packages. -/
import Derived.Test.YtocjdjgfadaljaaFacI
namespace Go.Proofs.Ytocjdjgfadaljaa
open Go.RowKit
set_option linter.unusedVariables false

theorem Fac.len {n : Nat} {xs : List Nat} (h : Fac n xs) : xs.length + 1 ≤ n := by
  induction h with
  | one => simp
  | step h1 h2 _ ih =>
    obtain ⟨_, a2, _⟩ := div_pos' h1 h2.1 h2.2.1
    simp only [List.length_cons]
    omega
theorem Fac.prime {n : Nat} {xs : List Nat} (h : Fac n xs) : xs.length = 1 ↔ Pr n := by
  constructor
  · intro hl
    cases h with
    | one => simp at hl
    | step h1 h2 h3 =>
      simp only [List.length_cons] at hl
      rename_i d ys
      obtain rfl : ys = [] := List.length_eq_zero_iff.1 (by omega)
      have e : n / d = 1 := by
        generalize n / d = q at h3
        cases h3
        rfl
      obtain ⟨_, _, a3⟩ := div_pos' h1 h2.1 h2.2.1
      rw [e, Nat.mul_one] at a3
      rw [← a3] at h2
      exact h2
  · intro hp
    have h1 := hp.1
    have : Fac n [n] := .step (by omega) hp (by rw [Nat.div_self (by omega)]; exact .one)
    rw [h.det this]; rfl

/-- The prime factors of a number, as both packages answer them. -/
noncomputable def facList (n : Int) : List Int := @dite _ (1 ≤ n ∧ n ≤ 1000000 ∧ ∃ xs, Fac n.toNat xs) (Classical.propDecidable _) (fun h => ints (Classical.choose h.2.2)) (fun _ => [])
theorem facList_yes {n : Nat} {xs : List Nat} (h1 : 1 ≤ n) (h2 : n ≤ 1000000) (h : Fac n xs) : facList n = ints xs := by
  have hc : 1 ≤ (n : Int) ∧ (n : Int) ≤ 1000000 ∧ ∃ xs, Fac (n : Int).toNat xs := ⟨by omega, by omega, xs, h⟩
  unfold facList
  rw [dif_pos hc]
  congr 1
  exact (Classical.choose_spec hc.2.2).det h
theorem facList_no {n : Int} (h : n < 1 ∨ 1000000 < n) : facList n = [] := by
  unfold facList
  exact dif_neg (fun k => by omega)
theorem facList_length (n : Int) : (facList n).length ≤ 1000000 := by
  unfold facList
  split
  · rename_i h
    have := (Classical.choose_spec h.2.2).len
    rw [ints_length]
    omega
  · simp

theorem ifacAll (n : Int) (w : World) :
    Calls Try.prog 18 #[.int .i64 n] w fun e w' => ∃ v, e = .returned v ∧ Ints w' w.heap.size v (facList n) ∧ Below w.heap.size w w' := by
  by_cases h : 1 ≤ n ∧ n ≤ 1000000
  · obtain ⟨k, rfl⟩ : ∃ k : Nat, n = k := ⟨n.toNat, by omega⟩
    exact (ifactors k w (by omega) (by omega)).mono fun e w' ⟨v, he, xs, hf, hi, hb⟩ => ⟨v, he, by rw [facList_yes (by omega) (by omega) hf]; exact hi, hb⟩
  · rw [facList_no (by omega)]; exact ifactors_no n w (by omega)

/-- The factors exist. -/
theorem facList_some (n : Nat) (h1 : 1 ≤ n) (h2 : n ≤ 1000000) : ∃ xs, Fac n xs := by
  have h : ∀ n : Nat, 1 ≤ n → ∃ xs, Fac n xs := fun n => by
    induction n using Nat.strongRecOn with
    | _ n ih =>
      intro hn
      by_cases e : n = 1
      · subst e; exact ⟨[], .one⟩
      · by_cases hp : Pr n
        · exact ⟨[n], .step hn hp (by rw [Nat.div_self (by omega)]; exact .one)⟩
        · obtain ⟨q, q1, q2, q3, q4⟩ := not_pr_divisor n (by omega) hp
          have hm : ∃ d, IsMin n d := by
            have : ∀ k, (∃ e, 2 ≤ e ∧ e ≤ k ∧ e ∣ n) → ∃ d, IsMin n d := fun k => by
              induction k with
              | zero => rintro ⟨e, e1, e2, _⟩; omega
              | succ k ihk =>
                intro hk
                by_cases hx : ∃ e, 2 ≤ e ∧ e ≤ k ∧ e ∣ n
                · exact ihk hx
                · obtain ⟨e, e1, e2, e3⟩ := hk
                  refine ⟨e, e1, e3, fun f f1 f2 f3 => hx ⟨f, f1, by omega, f3⟩⟩
            exact this q ⟨q, q1.1, Nat.le_refl _, q2⟩
          obtain ⟨d, hd⟩ := hm
          obtain ⟨a1, a2, _⟩ := div_pos' hn hd.1 hd.2.1
          obtain ⟨xs, hx⟩ := ih (n / d) (by omega) a1
          exact ⟨d :: xs, .step hn hd hx⟩
  exact h n h1

/-- What IsPrime answers. -/
noncomputable def isPr (n : Int) : Bool := decide ((facList n).length = 1)
theorem isPr_nat (n : Nat) (h1 : 1 ≤ n) (h2 : n ≤ 1000000) : isPr n = true ↔ Pr n := by
  obtain ⟨xs, hx⟩ := facList_some n h1 h2
  unfold isPr
  rw [facList_yes h1 h2 hx, ints_length, decide_eq_true_eq]
  exact hx.prime
theorem isPr_no {n : Int} (h : n < 2 ∨ 1000000 < n) : isPr n = false := by
  by_cases e : n = 1
  · subst e
    have := isPr_nat 1 (by omega) (by omega)
    cases hb : isPr 1
    · rfl
    · have hp := this.1 hb
      have := hp.1
      omega
  · unfold isPr
    rw [facList_no (by omega)]
    rfl

theorem iprime (n : Int) (w : World) :
    Calls Try.prog 12 #[.int .i64 n] w fun e w' => e = .returned (.bool (isPr n)) ∧ Below w.heap.size w w' := by
  have V := Lib.hid (show isPr n = decide ((facList n).length = 1) from rfl)
  obtain ⟨m, hm⟩ : ∃ m, (facList n).length = m := ⟨_, rfl⟩
  have HM := Lib.hid hm
  clear hm
  go_enter Try.func12, Try.ntmps12
  go_wp2_with fail
  refine (ifacAll n _).mono ?_
  rintro e w1 ⟨v, rfl, i1, b1⟩
  obtain ⟨a, cap, rfl, _⟩ := i1.shape
  rw [HM.out]
  have B1 := Lib.hid b1
  have V2 := Lib.hid (show isPr n = ((m : Int) == 1) by rw [V.out, HM.out]; rw [Bool.eq_iff_iff]; simp; omega)
  clear b1 i1
  go_wp2
  go_ret
  exact ⟨ret_b _ _ V2.out.symm, B1.out⟩

end Go.Proofs.Ytocjdjgfadaljaa
