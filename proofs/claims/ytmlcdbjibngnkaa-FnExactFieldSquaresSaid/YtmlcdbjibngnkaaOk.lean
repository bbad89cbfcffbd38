/- Whether a field is valid, by the model. -/
import Derived.Test.YtmlcdbjibngnkaaSe
import Derived.Test.YtmlcdbjibngnkaaFo
namespace Go.Proofs.Ytmlcdbjibngnkaa
open Go.RowKit
set_option linter.unusedVariables false

theorem Fd.drewN {w : World} {g : Nat} {P K : Int} {v : Value} (h : Fd w g P K v) (n : Nat) : Fd (w.drewN n) g P K v := h

theorem belowN {B : Nat} {a w : World} (h : Below B a w) : ∀ n, Below B a (w.drewN n) := fun n => ⟨h.os, h.tape, h.output, h.size, h.block⟩

/-- The split of a power tells whether the base is prime. -/
theorem sp_power {p k P K : Nat} (hp : 2 ≤ p) (hk : 1 ≤ k) (h : SpOut (p ^ k) P K) : P = p ↔ Pr p := by
  constructor
  · intro e
    subst e
    rcases h with ⟨h, -⟩ | ⟨h, -⟩
    · omega
    · exact h
  · intro hpr
    rcases h with ⟨-, -, h⟩ | ⟨h, hK, e⟩
    · exact absurd (by rw [show k - 1 + 1 = k by omega]) (h p (k - 1) hpr)
    · have a := min_pow hpr (k - 1)
      have b := min_pow h (K - 1)
      rw [show k - 1 + 1 = k by omega] at a
      rw [show K - 1 + 1 = K by omega, ← e] at b
      exact b.uniq a
theorem vec_cofs (xs : List Int) (n : Nat) (h : xs.length = n) : xs = vec n (cofs xs) := by
  apply List.ext_getElem
  · simp [h]
  · intro i h1 h2
    simp [vec, cofs, List.getD, List.getElem?_eq_getElem h1]

set_option maxHeartbeats 2000000 in
theorem sok (P K : Int) (xs : List Int) (v : Value) (g : Nat) (w : World) (hf : Fd w g P K v) (hv : IntsAt w v xs) :
    Calls Try.prog 58 #[.pointer (some ⟨g, 0, none⟩)] w fun e w' => e = .returned (.bool (fok P K xs)) ∧ Below w.heap.size w w' := by
  obtain ⟨n, hn⟩ : ∃ n, xs.length = n := ⟨_, rfl⟩
  obtain ⟨a, cap, rfl⟩ : ∃ a cap, v = .slice a n cap := by
    rcases hv.2 with ⟨rfl, a, cap, rfl⟩ | ⟨g, off, cap, rfl, _⟩
    · exact ⟨a, cap, by rw [← hn]; rfl⟩
    · exact ⟨_, cap, by rw [hn]⟩
  have hl := hv.1
  have HV := Lib.hid hv
  rw [hn] at hl
  have HN := Lib.hid hn
  clear hv hn
  obtain ⟨c0, c1, c2⟩ := hf.cells
  have HF := Lib.hid hf
  clear hf
  by_cases hP : 2 ≤ P ∧ P ≤ 64
  · obtain ⟨P1, P2⟩ := hP
    have HI1 := Lib.hid (fun W : World => in_yes' P 2 64 W P1 P2)
    by_cases hK : 1 ≤ K ∧ K ≤ 6
    · obtain ⟨K1, K2⟩ := hK
      have HI2 := Lib.hid (fun W : World => in_yes' K 1 6 W K1 K2)
      obtain ⟨p, rfl⟩ : ∃ p : Nat, P = p := ⟨P.toNat, by omega⟩
      obtain ⟨k, rfl⟩ : ∃ k : Nat, K = k := ⟨K.toNat, by omega⟩
      by_cases hnk : n = k + 1
      · subst hnk
        have nT : (((k + 1 : Nat) : Int) != (k : Int) + 1) = false := by simp
        obtain ⟨g2, off, rfl, hc⟩ : ∃ g off, a = some ⟨g, off, none⟩ ∧ ∀ j, j < k + 1 → w.cell? ⟨g, off + j, none⟩ = some (.int .i64 (xs.getD j 0)) := by
          rcases HV.out.2 with ⟨rfl, _⟩ | ⟨g, off, cap', e, hc⟩
          · have := HN.out; simp at this
          · simp only [Value.slice.injEq] at e
            exact ⟨g, off, e.1, fun j hj => hc j (by rw [HN.out]; exact hj)⟩
        have HC := Lib.hid hc
        clear hc
        obtain ⟨x, hx⟩ : ∃ x, xs.getD k 0 = x := ⟨_, rfl⟩
        have cx := HC.out k (by omega)
        rw [hx] at cx
        have i1 : (0 : Int) ≤ (k : Int) := by omega
        have i2 : (k : Int) < ((k + 1 : Nat) : Int) := by omega
        have HX := Lib.hid hx
        clear hx
        by_cases hx1 : x = 1
        · subst hx1
          have xT : ((1 : Int) != 1) = false := by simp
          have HPw := Lib.hid (fun W : World => spower p k W (by omega) (by omega))
          obtain ⟨q, hq⟩ : ∃ q, p ^ k = q := ⟨_, rfl⟩
          rw [hq] at HPw
          have q2 : 2 ≤ q := by
            rw [← hq]
            have : p ^ 1 ≤ p ^ k := Nat.pow_le_pow_right (by omega) (by omega)
            rw [Nat.pow_one] at this
            omega
          have HQ := Lib.hid hq
          clear hq
          by_cases hq64 : q ≤ 64
          · have HS := Lib.hid (fun W : World => ssplit q W q2 hq64)
            by_cases hpr : isPr p = true
            · have PT : ∀ P' K', SpOut q P' K' → p = P' := by
                intro P' K' hs
                rw [← HQ.out] at hs
                exact ((sp_power (by omega) (by omega) hs).2 ((isPr_nat p (by omega) (by omega)).1 hpr)).symm
              have HPT := Lib.hid PT
              have HPR := Lib.hid hpr
              clear PT hpr
              have pT : ((p : Int) != (p : Int)) = false := by simp
              have HIR := Lib.hid (fun (W : World) (hr : Rd p (k + 1) (cofs xs)) (hb : IntsAt W (.slice (some ⟨g2, off, none⟩) (k + 1) cap) (vec (k + 1) (cofs xs))) => sirr p k (cofs xs) (.slice (some ⟨g2, off, none⟩) (k + 1) cap) W hb (by omega) (by omega) (by omega) (by omega) hr (by rw [HQ.out]; exact hq64))
              go_enter Try.func58, Try.ntmps58
              go_wp2
              go_quiet ((go_at_call 90; first | with_reducible exact Calls.quiet_of_same (HI1.out _) | with_reducible exact quiet_same2 (HI1.out _) | with_reducible exact Calls.quiet_of_same (HI2.out _) | with_reducible exact quiet_same2 (HI2.out _)))
              go_wp2
              go_quiet ((go_at_call 88; first | with_reducible exact Calls.quiet_of_same (HPw.out _) | with_reducible exact quiet_same2 (HPw.out _)))
              go_upto_region 5 with (go_at_call 69; refine (HS.out _).mono ?_; rintro e w' ⟨P', K', rfl, hs, rfl⟩; obtain rfl := HPT.out P' K' hs)
              have BW : Hid (∀ wr : World, (∃ d, wr = w.drewN d) → Below w.heap.size w wr) := by
                rintro wr ⟨d, rfl⟩
                exact belowN (Below.refl _ _) d
              go_wp2
              go_loopw [6] (fun i wr => ∃ j : Nat, j ≤ k + 1 ∧ i = .int .i64 j ∧ Hid (∀ i, i < j → 0 ≤ xs.getD i 0 ∧ xs.getD i 0 < p) ∧ ∃ d, wr = w.drewN d) (fun i _ => k + 1 - (intOf i).toNat)
              case atStart => exact ⟨0, by omega, rfl, fun i hi => by omega, _, rfl⟩
              case round =>
                obtain ⟨j, hj, rfl, hr, dd, rfl⟩ := hrel
                by_cases hlt : j < k + 1
                · obtain ⟨y, hy⟩ : ∃ y, xs.getD j 0 = y := ⟨_, rfl⟩
                  have cy := HC.out j hlt
                  rw [hy] at cy
                  have j0 : (0 : Int) ≤ (j : Int) := by omega
                  have j1 : (j : Int) < ((k + 1 : Nat) : Int) := by omega
                  have HY := Lib.hid hy
                  clear hy
                  by_cases yb : 0 ≤ y ∧ y ≤ (p : Int) - 1
                  · obtain ⟨y1, y2⟩ := yb
                    have R1 : Hid (∀ i, i < j + 1 → 0 ≤ xs.getD i 0 ∧ xs.getD i 0 < p) := by
                      intro i hi
                      by_cases e : i = j
                      · subst e; rw [HY.out]; omega
                      · exact hr.out i (by omega)
                    go_wp2_with (go_at_call 90; refine (in_yes _ _ _ _ y1 y2).mono ?_; rintro e w' ⟨rfl, rfl⟩)
                    go_roundw
                    case rel => exact ⟨j + 1, by omega, by go_num, R1, _, rfl⟩
                    case measure => simp only [intOf]; omega
                  · have hn : Hid (y < 0 ∨ (p : Int) - 1 < y) := by unfold Hid; omega
                    have E : Hid (fok p k xs = false) := by
                      cases hb : fok p k xs
                      · rfl
                      · rw [fok_iff] at hb
                        have := hb.2.2.2.2.2.1 j hlt
                        rw [HY.out] at this
                        omega
                    clear yb
                    go_wp2_with (go_at_call 90; refine (in_no _ _ _ _ hn.out).mono ?_; rintro e w' ⟨rfl, rfl⟩)
                    go_ret
                    exact ⟨ret_b _ _ E.out.symm, BW.out _ ⟨_, rfl⟩⟩
                · obtain rfl : j = k + 1 := by omega
                  have g3 : ¬ ((k + 1 : Nat) : Int) < ((k + 1 : Nat) : Int) := by omega
                  have EX := vec_cofs xs (k + 1) HN.out
                  have RD : Hid (Rd p (k + 1) (cofs xs)) := by
                    intro i
                    unfold cofs
                    by_cases h : i < k + 1
                    · exact ⟨(hr.out i h).1, (hr.out i h).2, fun q => by omega⟩
                    · have e : xs.getD i 0 = 0 := by rw [List.getD_eq_getElem?_getD, List.getElem?_eq_none (by rw [HN.out]; omega)]; rfl
                      rw [e]
                      exact ⟨Int.le_refl _, by omega, fun _ => rfl⟩
                  have HV2 : Hid (∀ d, IntsAt (w.drewN d) (.slice (some ⟨g2, off, none⟩) (k + 1) cap) (vec (k + 1) (cofs xs))) := by intro d; rw [← EX]; exact HV.out
                  have E : Hid (irrB p k (cofs xs) = fok p k xs) := by
                    rw [Bool.eq_iff_iff, fok_iff]
                    exact ⟨fun h => ⟨HPR.out, by omega, by rw [HQ.out]; exact hq64, HN.out, HX.out, hr.out, h⟩, fun h => h.2.2.2.2.2.2⟩
                  clear EX
                  go_wp2_with (go_at_call 87; refine (HIR.out _ RD.out (HV2.out _)).mono ?_; rintro e w5 ⟨rfl, b5⟩; have B5 := Lib.hid b5; clear b5)
                  go_ret
                  exact ⟨ret_b _ _ E.out, (BW.out _ ⟨_, rfl⟩).trans B5.out⟩
            · have PT : ∀ P' K', SpOut q P' K' → ((P' : Int) != (p : Int)) = true := by
                intro P' K' hs
                rw [← HQ.out] at hs
                have := mt (sp_power (by omega) (by omega) hs).1 (fun h => hpr ((isPr_nat p (by omega) (by omega)).2 h))
                simpa using fun e : (P' : Int) = (p : Int) => this (by omega)
              have HPT := Lib.hid PT
              have E : Hid (fok p k xs = false) := by
                cases hb : fok p k xs
                · rfl
                · rw [fok_iff] at hb; exact absurd hb.1 hpr
              clear PT hpr
              go_enter Try.func58, Try.ntmps58
              go_wp2
              go_quiet ((go_at_call 90; first | with_reducible exact Calls.quiet_of_same (HI1.out _) | with_reducible exact quiet_same2 (HI1.out _) | with_reducible exact Calls.quiet_of_same (HI2.out _) | with_reducible exact quiet_same2 (HI2.out _)))
              go_wp2
              go_quiet ((go_at_call 88; first | with_reducible exact Calls.quiet_of_same (HPw.out _) | with_reducible exact quiet_same2 (HPw.out _)))
              go_wp2_with (go_at_call 69; refine (HS.out _).mono ?_; rintro e w' ⟨P', K', rfl, hs, rfl⟩; have hT := HPT.out P' K' hs)
              go_ret
              exact ⟨ret_b _ _ E.out.symm, belowN (Below.refl _ _) _⟩
          · have HS := Lib.hid (fun W : World => ssplit_no q W (by omega))
            have E : Hid (fok p k xs = false) := by
              cases hb : fok p k xs
              · rfl
              · rw [fok_iff] at hb; have := hb.2.2.1; have := HQ.out; omega
            have pT : ((0 : Int) != (p : Int)) = true := by simp; omega
            go_enter Try.func58, Try.ntmps58
            go_wp2
            go_quiet ((go_at_call 90; first | with_reducible exact Calls.quiet_of_same (HI1.out _) | with_reducible exact quiet_same2 (HI1.out _) | with_reducible exact Calls.quiet_of_same (HI2.out _) | with_reducible exact quiet_same2 (HI2.out _)))
            go_wp2
            go_quiet ((go_at_call 88; first | with_reducible exact Calls.quiet_of_same (HPw.out _) | with_reducible exact quiet_same2 (HPw.out _)))
            go_wp2_with (go_at_call 69; refine (HS.out _).mono ?_; rintro e w' ⟨rfl, rfl⟩)
            go_ret
            exact ⟨ret_b _ _ E.out.symm, belowN (Below.refl _ _) _⟩
        · have xT : (x != 1) = true := by simpa using hx1
          have E : Hid (fok p k xs = false) := by
            cases hb : fok p k xs
            · rfl
            · rw [fok_iff] at hb; exact absurd (by rw [← HX.out]; exact hb.2.2.2.2.1) hx1
          go_enter Try.func58, Try.ntmps58
          go_wp2
          go_quiet ((go_at_call 90; first | with_reducible exact Calls.quiet_of_same (HI1.out _) | with_reducible exact quiet_same2 (HI1.out _) | with_reducible exact Calls.quiet_of_same (HI2.out _) | with_reducible exact quiet_same2 (HI2.out _)))
          go_wp2
          go_ret
          exact ⟨ret_b _ _ E.out.symm, belowN (Below.refl _ _) _⟩
      · have nT : ((n : Int) != (k : Int) + 1) = true := by simp; omega
        have E : Hid (fok p k xs = false) := by
          cases hb : fok p k xs
          · rfl
          · rw [fok_iff] at hb; exact absurd (by rw [← HN.out]; exact hb.2.2.2.1) hnk
        go_enter Try.func58, Try.ntmps58
        go_wp2
        go_quiet ((go_at_call 90; first | with_reducible exact Calls.quiet_of_same (HI1.out _) | with_reducible exact quiet_same2 (HI1.out _) | with_reducible exact Calls.quiet_of_same (HI2.out _) | with_reducible exact quiet_same2 (HI2.out _)))
        go_wp2
        go_ret
        exact ⟨ret_b _ _ E.out.symm, belowN (Below.refl _ _) _⟩
    · have HI2 := Lib.hid (fun W : World => in_no' K 1 6 W (by omega))
      have E : Hid (fok P K xs = false) := by
        cases hb : fok P K xs
        · rfl
        · obtain ⟨p, k, rfl, rfl, h⟩ := fok_int hb; have := h.bd; have := h.2.1; omega
      go_enter Try.func58, Try.ntmps58
      go_wp2
      go_quiet ((go_at_call 90; first | with_reducible exact Calls.quiet_of_same (HI1.out _) | with_reducible exact quiet_same2 (HI1.out _) | with_reducible exact Calls.quiet_of_same (HI2.out _) | with_reducible exact quiet_same2 (HI2.out _)))
      go_wp2
      go_ret
      exact ⟨ret_b _ _ E.out.symm, belowN (Below.refl _ _) _⟩
  · have HI1 := Lib.hid (fun W : World => in_no' P 2 64 W (by omega))
    have E : Hid (fok P K xs = false) := by
      cases hb : fok P K xs
      · rfl
      · obtain ⟨p, k, rfl, rfl, h⟩ := fok_int hb; have := h.bd; omega
    go_enter Try.func58, Try.ntmps58
    go_wp2
    go_quiet ((go_at_call 90; first | with_reducible exact Calls.quiet_of_same (HI1.out _) | with_reducible exact quiet_same2 (HI1.out _)))
    go_wp2
    go_ret
    exact ⟨ret_b _ _ E.out.symm, belowN (Below.refl _ _) _⟩
end Go.Proofs.Ytmlcdbjibngnkaa
