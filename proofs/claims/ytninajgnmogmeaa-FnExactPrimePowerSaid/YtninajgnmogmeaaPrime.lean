/- FactorsOf: the law; IsPrime of both packages. -/
import Derived.Test.YtninajgnmogmeaaFacI
namespace Go.Proofs.Ytninajgnmogmeaa
open Go.RowKit
set_option linter.unusedVariables false

theorem Fac.len {n : Nat} {xs : List Nat} (h : Fac n xs) : xs.length + 1 ≤ n := by
  induction h with
  | one => simp
  | step h1 h2 _ ih =>
    obtain ⟨_, a2, _⟩ := div_pos' h1 h2.1 h2.2.1
    simp only [List.length_cons]
    omega
theorem Fac.prime {n : Nat} {xs : List Nat} (h : Fac n xs) : xs.length = 1 ↔ Pr n := by
  constructor
  · intro hl
    cases h with
    | one => simp at hl
    | step h1 h2 h3 =>
      simp only [List.length_cons] at hl
      rename_i d ys
      obtain rfl : ys = [] := List.length_eq_zero_iff.1 (by omega)
      have e : n / d = 1 := by
        generalize n / d = q at h3
        cases h3
        rfl
      obtain ⟨_, _, a3⟩ := div_pos' h1 h2.1 h2.2.1
      rw [e, Nat.mul_one] at a3
      rw [← a3] at h2
      exact h2
  · intro hp
    have h1 := hp.1
    have : Fac n [n] := .step (by omega) hp (by rw [Nat.div_self (by omega)]; exact .one)
    rw [h.det this]; rfl

/-- The prime factors of a number, as both packages answer them. -/
noncomputable def facList (n : Int) : List Int := @dite _ (1 ≤ n ∧ n ≤ 1000000 ∧ ∃ xs, Fac n.toNat xs) (Classical.propDecidable _) (fun h => ints (Classical.choose h.2.2)) (fun _ => [])
theorem facList_yes {n : Nat} {xs : List Nat} (h1 : 1 ≤ n) (h2 : n ≤ 1000000) (h : Fac n xs) : facList n = ints xs := by
  have hc : 1 ≤ (n : Int) ∧ (n : Int) ≤ 1000000 ∧ ∃ xs, Fac (n : Int).toNat xs := ⟨by omega, by omega, xs, h⟩
  unfold facList
  rw [dif_pos hc]
  congr 1
  exact (Classical.choose_spec hc.2.2).det h
theorem facList_no {n : Int} (h : n < 1 ∨ 1000000 < n) : facList n = [] := by
  unfold facList
  exact dif_neg (fun k => by omega)
theorem facList_length (n : Int) : (facList n).length ≤ 1000000 := by
  unfold facList
  split
  · rename_i h
    have := (Classical.choose_spec h.2.2).len
    rw [ints_length]
    omega
  · simp

theorem sfacAll (n : Int) (w : World) :
    Calls Try.prog 26 #[.int .i64 n] w fun e w' => ∃ v, e = .returned v ∧ Ints w' w.heap.size v (facList n) ∧ Below w.heap.size w w' := by
  by_cases h : 1 ≤ n ∧ n ≤ 1000000
  · obtain ⟨k, rfl⟩ : ∃ k : Nat, n = k := ⟨n.toNat, by omega⟩
    exact (sfactors k w (by omega) (by omega)).mono fun e w' ⟨v, he, xs, hf, hi, hb⟩ => ⟨v, he, by rw [facList_yes (by omega) (by omega) hf]; exact hi, hb⟩
  · rw [facList_no (by omega)]; exact sfactors_no n w (by omega)

theorem ifacAll (n : Int) (w : World) :
    Calls Try.prog 27 #[.int .i64 n] w fun e w' => ∃ v, e = .returned v ∧ Ints w' w.heap.size v (facList n) ∧ Below w.heap.size w w' := by
  by_cases h : 1 ≤ n ∧ n ≤ 1000000
  · obtain ⟨k, rfl⟩ : ∃ k : Nat, n = k := ⟨n.toNat, by omega⟩
    exact (ifactors k w (by omega) (by omega)).mono fun e w' ⟨v, he, xs, hf, hi, hb⟩ => ⟨v, he, by rw [facList_yes (by omega) (by omega) hf]; exact hi, hb⟩
  · rw [facList_no (by omega)]; exact ifactors_no n w (by omega)

/-- The factors exist. -/
theorem facList_some (n : Nat) (h1 : 1 ≤ n) (h2 : n ≤ 1000000) : ∃ xs, Fac n xs := by
  have h : ∀ n : Nat, 1 ≤ n → ∃ xs, Fac n xs := fun n => by
    induction n using Nat.strongRecOn with
    | _ n ih =>
      intro hn
      by_cases e : n = 1
      · subst e; exact ⟨[], .one⟩
      · by_cases hp : Pr n
        · exact ⟨[n], .step hn hp (by rw [Nat.div_self (by omega)]; exact .one)⟩
        · obtain ⟨q, q1, q2, q3, q4⟩ := not_pr_divisor n (by omega) hp
          have hm : ∃ d, IsMin n d := by
            have : ∀ k, (∃ e, 2 ≤ e ∧ e ≤ k ∧ e ∣ n) → ∃ d, IsMin n d := fun k => by
              induction k with
              | zero => rintro ⟨e, e1, e2, _⟩; omega
              | succ k ihk =>
                intro hk
                by_cases hx : ∃ e, 2 ≤ e ∧ e ≤ k ∧ e ∣ n
                · exact ihk hx
                · obtain ⟨e, e1, e2, e3⟩ := hk
                  refine ⟨e, e1, e3, fun f f1 f2 f3 => hx ⟨f, f1, by omega, f3⟩⟩
            exact this q ⟨q, q1.1, Nat.le_refl _, q2⟩
          obtain ⟨d, hd⟩ := hm
          obtain ⟨a1, a2, _⟩ := div_pos' hn hd.1 hd.2.1
          obtain ⟨xs, hx⟩ := ih (n / d) (by omega) a1
          exact ⟨d :: xs, .step hn hd hx⟩
  exact h n h1

set_option maxHeartbeats 800000 in
theorem law_FnExactFactorsOf (m : Int) (w : World) (_ : (Lit.int .i64 m).wf = true) :
    Calls Try.prog 7 #[.int .i64 m] w fun r w' => r = .returned (.bool true) ∧ Below w.heap.size w w' := by
  have hlen := facList_length m
  obtain ⟨xs, hxs⟩ : ∃ xs, facList m = xs := ⟨_, rfl⟩
  have hS := fun W => sfacAll m W
  have hI := fun W => ifacAll m W
  rw [hxs] at hlen
  simp only [hxs] at hS hI
  have HS := Lib.hid hS
  have HI := Lib.hid hI
  clear hS hI hxs
  go_enter Try.func7, Try.ntmps7
  go_wp2_with (go_at_call 26; refine (HS.out _).mono ?_; rintro r w1 ⟨v0, rfl, i0, b0⟩; have I0 := Lib.hid i0; have B0 := Lib.hid b0; clear i0 b0)
  refine (HI.out _).mono ?_
  rintro r w2 ⟨v1, rfl, i1, b1⟩
  have I1 := Lib.hid i1
  have B1 := Lib.hid b1
  have I0' := Lib.hid (I0.out.below b1 (Nat.le_refl _))
  clear i1 b1
  go_wp2_with (go_at_call 28; refine (eq_same _ _ _ xs I1.out.at I0'.out.at).mono ?_; rintro r w3 ⟨rfl, n3, rfl⟩)
  refine (mark_own _ _ v1 xs 1 (I1.out.drewN n3) (by omega) (by omega)).mono ?_
  rintro r w4 ⟨rfl, j1, g4, s4⟩
  have J1 := Lib.hid j1
  have J0 := Lib.hid (Ints.mark_other (I0'.out.drewN n3) I1.out trivial I0.out (Nat.le_refl _) g4)
  have b4 := below_of_grown g4 (B := w1.heap.size) (by have := B1.out.size; simpa using this) (fun k hk => (World.ownsRow.lt I1.out k hk).1)
  have B4 := Lib.hid b4
  clear j1 g4 b4 s4
  go_wp2_with fail
  refine (held_marks _ v1 1 xs.length J1.out.at (by omega) (by omega)).mono ?_
  rintro r w5 ⟨rfl, rfl⟩
  go_wp2_with (go_at_call 27; refine (HI.out _).mono ?_; rintro r w6 ⟨v2, rfl, i2, b2⟩; have I2 := Lib.hid i2; have B2 := Lib.hid b2; clear i2 b2)
  refine (eq_same _ _ _ xs I2.out.at (J0.out.below B2.out (Nat.le_refl _)).at).mono ?_
  rintro r w7 ⟨rfl, n7, rfl⟩
  go_wp2_with fail
  refine (held_marks _ v1 1 xs.length (((J1.out.below B2.out (Nat.le_refl _)).drewN n7).at) (by omega) (by omega)).mono ?_
  rintro r w8 ⟨rfl, rfl⟩
  go_wp2
  go_ret
  exact ⟨rfl, below_law B0.out B1.out B4.out B2.out⟩

/-- What IsPrime answers. -/
noncomputable def isPr (n : Int) : Bool := decide ((facList n).length = 1)
theorem isPr_nat (n : Nat) (h1 : 1 ≤ n) (h2 : n ≤ 1000000) : isPr n = true ↔ Pr n := by
  obtain ⟨xs, hx⟩ := facList_some n h1 h2
  unfold isPr
  rw [facList_yes h1 h2 hx, ints_length, decide_eq_true_eq]
  exact hx.prime
theorem isPr_no {n : Int} (h : n < 2 ∨ 1000000 < n) : isPr n = false := by
  by_cases e : n = 1
  · subst e
    have := isPr_nat 1 (by omega) (by omega)
    cases hb : isPr 1
    · rfl
    · have hp := this.1 hb
      have := hp.1
      omega
  · unfold isPr
    rw [facList_no (by omega)]
    rfl

theorem sprime (n : Int) (w : World) :
    Calls Try.prog 24 #[.int .i64 n] w fun e w' => e = .returned (.bool (isPr n)) ∧ w = w' := by
  by_cases h : 2 ≤ n ∧ n ≤ 1000000
  · obtain ⟨k, rfl⟩ : ∃ k : Nat, n = k := ⟨n.toNat, by omega⟩
    obtain ⟨h1, h2⟩ := h
    have hiff := Lib.hid (isPr_nat k (by omega) (by omega))
    go_enter Try.func24, Try.ntmps24
    go_wp2_with (go_at_call 53; refine (in_yes _ _ _ _ h1 h2).mono ?_; rintro e w' ⟨rfl, rfl⟩)
    go_loop [3] (fun u => ∃ d : Nat, 2 ≤ d ∧ d ≤ 1001 ∧ u = .int .i64 d ∧ Hid (NoDiv k d)) (fun u => 1001 - (intOf u).toNat)
    case atStart => exact ⟨2, by omega, by omega, rfl, fun e e1 e2 => by omega⟩
    case round =>
      obtain ⟨d, d2, d3, rfl, hr⟩ := hrel
      have kk : d * d ≤ 1001 * 1001 := Nat.mul_le_mul d3 d3
      have kk' : (d : Int) * (d : Int) ≤ 1002001 := by have := Int.ofNat_le.2 kk; simpa using this
      have kk0 : (0 : Int) ≤ (d : Int) * (d : Int) := Int.mul_nonneg (by omega) (by omega)
      have z1 : ¬ (d : Int) = 0 := by omega
      by_cases hle : d * d ≤ k
      · have hle' : (d : Int) * (d : Int) ≤ (k : Int) := by have := Int.ofNat_le.2 hle; simpa using this
        have k4 : d ≤ 1000 := by
          by_cases e : d = 1001
          · subst e; omega
          · omega
        by_cases hd : d ∣ k
        · have hT : ((k : Int) % (d : Int) == 0) = true := by rw [beq_iff_eq, ← Int.dvd_iff_emod_eq_zero]; exact Int.ofNat_dvd.2 hd
          have V := Lib.hid (show isPr (k : Int) = false by
            cases hb : isPr (k : Int)
            · rfl
            · have hp := hiff.out.1 hb
              have hlt : d < k := by
                have : 2 * d ≤ d * d := Nat.mul_le_mul_right d d2
                omega
              exact absurd hd (hp.2.2 d d2 hlt))
          clear hd kk
          go_wp2
          go_ret
          exact ⟨ret_b _ _ V.out.symm, rfl⟩
        · have hT : ((k : Int) % (d : Int) == 0) = false := by
            have : ¬ (d : Int) ∣ (k : Int) := fun h => hd (Int.ofNat_dvd.1 h)
            rw [Int.dvd_iff_emod_eq_zero] at this
            simpa using this
          have V := Lib.hid (hr.out.succ hd)
          clear hd kk
          go_wp2
          go_round
          case rel => exact ⟨d + 1, by omega, by omega, by go_num, V⟩
          case measure => simp only [intOf]; omega
      · have hle' : ¬ (d : Int) * (d : Int) ≤ (k : Int) := by
          intro h
          have : ((d * d : Nat) : Int) ≤ (k : Int) := by simpa using h
          omega
        have V := Lib.hid (show isPr (k : Int) = true from hiff.out.2 (hr.out.prime (by omega) (by omega)))
        clear kk
        go_wp2
        go_ret
        exact ⟨ret_b _ _ V.out.symm, rfl⟩
  · have V := Lib.hid (show isPr n = false from isPr_no (by omega))
    have H := Lib.hid (show n < 2 ∨ 1000000 < n by omega)
    clear h
    go_enter Try.func24, Try.ntmps24
    go_wp2_with (go_at_call 53; refine (in_no _ _ _ _ H.out).mono ?_; rintro e w' ⟨rfl, rfl⟩)
    go_ret
    exact ⟨ret_b _ _ V.out.symm, rfl⟩

theorem iprime (n : Int) (w : World) :
    Calls Try.prog 25 #[.int .i64 n] w fun e w' => e = .returned (.bool (isPr n)) ∧ Below w.heap.size w w' := by
  have V := Lib.hid (show isPr n = decide ((facList n).length = 1) from rfl)
  obtain ⟨m, hm⟩ : ∃ m, (facList n).length = m := ⟨_, rfl⟩
  have HM := Lib.hid hm
  clear hm
  go_enter Try.func25, Try.ntmps25
  go_wp2_with fail
  refine (ifacAll n _).mono ?_
  rintro e w1 ⟨v, rfl, i1, b1⟩
  obtain ⟨a, cap, rfl, _⟩ := i1.shape
  rw [HM.out]
  have B1 := Lib.hid b1
  have V2 := Lib.hid (show isPr n = ((m : Int) == 1) by rw [V.out, HM.out]; rw [Bool.eq_iff_iff]; simp; omega)
  clear b1 i1
  go_wp2
  go_ret
  exact ⟨ret_b _ _ V2.out.symm, B1.out⟩

theorem law_FnExactIsPrime (n : Int) (w : World) (_ : (Lit.int .i64 n).wf = true) :
    Calls Try.prog 6 #[.int .i64 n] w fun r w' => r = .returned (.bool true) ∧ Below w.heap.size w w' := by
  obtain ⟨b, hb⟩ : ∃ b, isPr n = b := ⟨_, rfl⟩
  have hS := fun W => sprime n W
  have hI := fun W => iprime n W
  simp only [hb] at hS hI
  have HS := Lib.hid hS
  have HI := Lib.hid hI
  clear hS hI hb
  cases b
  all_goals
    go_enter Try.func6, Try.ntmps6
    go_wp2_with (go_at_call 24; refine (HS.out _).mono ?_; rintro r w' ⟨rfl, rfl⟩)
    refine (HI.out _).mono ?_
    rintro r w' ⟨rfl, hb⟩
    have HB := Lib.hid hb
    clear hb
    go_wp2
    go_ret
    exact ⟨rfl, HB.out⟩
end Go.Proofs.Ytninajgnmogmeaa
