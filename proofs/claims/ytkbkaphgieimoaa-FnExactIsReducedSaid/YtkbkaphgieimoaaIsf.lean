/- Isotope: the exported functions of both sides. -/
import Derived.Test.YtkbkaphgieimoaaIsm
namespace Go.Proofs.Ytkbkaphgieimoaa
open Go.RowKit Go.Shelf
set_option linter.unusedVariables false

noncomputable def rpB (n : Nat) (xs : List Int) : Bool := decide (xs.length = n) && pmB xs
theorem rpB_rowD {n : Nat} {xss : List (List Int)} {i : Nat} : rpB n (xss.getD i []) = true ↔ rowD n xss i := by
  unfold rpB rowD
  rw [Bool.and_eq_true, decide_eq_true_iff]
theorem isoOk_eq (n : Nat) (rs cs ss : List Int) : isoOk n rs cs ss = (rpB n rs && (rpB n cs && rpB n ss)) := by
  unfold isoOk
  have e0 : rpB n rs = true ↔ rowD n [rs, cs, ss] 0 := rpB_rowD (xss := [rs, cs, ss]) (i := 0)
  have e1 : rpB n cs = true ↔ rowD n [rs, cs, ss] 1 := rpB_rowD (xss := [rs, cs, ss]) (i := 1)
  have e2 : rpB n ss = true ↔ rowD n [rs, cs, ss] 2 := rpB_rowD (xss := [rs, cs, ss]) (i := 2)
  cases h0 : rpB n rs with
  | false =>
    rw [Bool.false_and]
    exact hpB_false (x := 0) (by simp) (fun k => by rw [e0.2 k] at h0; cases h0)
  | true =>
    cases h1 : rpB n cs with
    | false =>
      rw [Bool.true_and, Bool.false_and]
      exact hpB_false (x := 1) (by simp) (fun k => by rw [e1.2 k] at h1; cases h1)
    | true =>
      cases h2 : rpB n ss with
      | false =>
        rw [Bool.true_and, Bool.true_and]
        exact hpB_false (x := 2) (by simp) (fun k => by rw [e2.2 k] at h2; cases h2)
      | true =>
        refine hpB_true fun x hx => ?_
        rcases (show x = 0 ∨ x = 1 ∨ x = 2 by simp at hx; omega) with rfl | rfl | rfl
        · exact e0.1 h0
        · exact e1.1 h1
        · exact e2.1 h2

set_option maxHeartbeats 1000000 in
theorem sPerm (w : World) (v : Value) (xs : List Int) (n : Nat) (hn : n ≤ 100) (hv : IntsC w v xs) :
    Calls Try.prog 90 #[v, .int .i64 n] w fun e w' => e = .returned (.bool (rpB n xs)) ∧ ∃ d, w' = w.drewN d := by
  have H := Lib.hid (sok w v xs hv)
  have hl := hv.1.1
  obtain ⟨a, c, rfl⟩ := hv.shape
  by_cases e : xs.length = n
  · have V : Hid (rpB n xs = pmB xs) := by unfold Hid rpB; rw [decide_eq_true e, Bool.true_and]
    rw [e] at H ⊢
    have t : ((n : Int) == (n : Int)) = true := by simp
    have t' : (n == n) = true := by simp
    obtain ⟨b, hb⟩ : ∃ b, pmB xs = b := ⟨_, rfl⟩
    rw [hb] at H V
    clear hv e hb hl
    go_enter Try.func90, Try.ntmps90
    go_wp2_with fail
    refine H.out.mono ?_
    rintro e w' ⟨rfl, d, rfl⟩
    go_wp2
    go_ret
    exact ⟨by rw [V.out]; rfl, _, rfl⟩
  · have V : Hid (rpB n xs = false) := by unfold Hid rpB; rw [decide_eq_false e, Bool.false_and]
    obtain ⟨l, hl'⟩ : ∃ l, xs.length = l := ⟨_, rfl⟩
    rw [hl'] at e hl ⊢
    have t : ((l : Int) == (n : Int)) = false := by simp; omega
    have t' : (l == n) = false := by simp [e]
    clear hv e hl' H
    go_enter Try.func90, Try.ntmps90
    go_wp2
    go_ret
    exact ⟨by rw [V.out]; rfl, 0, rfl⟩

theorem IsSq.rowLen {xss : List (List Int)} (h : IsSq xss) : ∀ x, x < xss.length → (xss.getD x []).length = xss.length := fun x hx => (h.row x hx).1

set_option maxRecDepth 100000 in
set_option maxHeartbeats 4000000 in
theorem sIsotope (xss : List (List Int)) (rs cs ss : List Int) (hx : SmallLL xss) (h1 : SmallL rs) (h2 : SmallL cs) (h3 : SmallL ss) (W : World) (v vr vc vs : Value) (hv : RowsAt W v xss) (ir : IntsC W vr rs) (ic : IntsC W vc cs) (is : IntsC W vs ss) :
    Calls Try.prog 42 #[v, vr, vc, vs] W fun e w' => ∃ r, e = .returned (.tuple #[r, .int .i64 (Isotope_1 xss rs cs ss)]) ∧ RowsAt w' r (Isotope_0 xss rs cs ss) ∧ Below W.heap.size W w' := by
  have HS := Lib.hid (sSq W v xss hv)
  obtain ⟨va, vk, rfl, -, -⟩ := hv.cellsOf
  have hml := hv.1
  cases hp : sqB xss with
  | false =>
    have V := Lib.hid (Iso_bad (rs := rs) (cs := cs) (ss := ss) hp)
    rw [hp] at HS
    clear hp hv ir ic is
    go_enter Try.func42, Try.ntmps42
    go_wp2_with fail
    refine HS.out.mono ?_
    rintro e w1 ⟨rfl, b1⟩
    have B1 := Lib.hid b1
    clear b1
    go_wp2
    go_ret2
    exact ⟨_, by rw [V.out.2]; rfl, by rw [V.out.1]; exact RowsAt.nil _ _ _, B1.out⟩
  | true =>
    have S := of_sqB hp
    have VN := Lib.hid (fun k => Iso_no (rs := rs) (cs := cs) (ss := ss) hp k)
    have VY := Lib.hid (fun k => Iso_ok (rs := rs) (cs := cs) (ss := ss) hp k)
    have EQ := Lib.hid (isoOk_eq xss.length rs cs ss)
    rw [hp] at HS
    have nhi := S.hi
    have nlo := S.lo
    have HL := Lib.hid (fun W' (b : Below W.heap.size W W') (k : isoOk xss.length rs cs ss = true) => sIsoL xss.length S.lo S.hi W' _ vr vc vs xss rs cs ss (hv.below b (Nat.le_refl _)) (ir.1.below b (Nat.le_refl _)) (ic.1.below b (Nat.le_refl _)) (is.1.below b (Nat.le_refl _)) rfl S.rowLen (fun x y hx hy => S.cell hx hy)
      (isoOk_parts k).1.1 (isoOk_parts k).2.1.1 (isoOk_parts k).2.2.1 (fun i hi => pm_mem (isoOk_parts k).1.1 (isoOk_parts k).1.2 hi) (fun i hi => pm_mem (isoOk_parts k).2.1.1 (isoOk_parts k).2.1.2 hi))
    have IL : Hid (isoL xss rs cs ss = gridL xss.length xss.length (movSt xss.length (isoMv xss rs cs ss) xss.length)) := rfl
    obtain ⟨n, hn⟩ : ∃ n, xss.length = n := ⟨_, rfl⟩
    rw [hn] at HS VN VY EQ HL nhi nlo IL hml ⊢
    have P1 := Lib.hid (fun W' (b : Below W.heap.size W W') => sPerm W' vr rs n (by omega) (ir.below b (Nat.le_refl _)))
    have P2 := Lib.hid (fun W' (b : Below W.heap.size W W') => sPerm W' vc cs n (by omega) (ic.below b (Nat.le_refl _)))
    have P3 := Lib.hid (fun W' (b : Below W.heap.size W W') => sPerm W' vs ss n (by omega) (is.below b (Nat.le_refl _)))
    obtain ⟨a1, e1⟩ : ∃ a, rpB n rs = a := ⟨_, rfl⟩
    obtain ⟨a2, e2⟩ : ∃ a, rpB n cs = a := ⟨_, rfl⟩
    obtain ⟨a3, e3⟩ : ∃ a, rpB n ss = a := ⟨_, rfl⟩
    simp only [e1] at P1 EQ
    simp only [e2] at P2 EQ
    simp only [e3] at P3 EQ
    clear hp hv ir ic is e1 e2 e3 hn S
    cases a1 with
    | false =>
      have V := Lib.hid (VN.out (by rw [EQ.out]; rfl))
      clear VN VY EQ HL P2 P3
      go_enter Try.func42, Try.ntmps42
      go_wp2_with fail
      refine HS.out.mono ?_
      rintro e w1 ⟨rfl, b1⟩
      have B1 := Lib.hid b1
      clear b1
      go_wp2_with fail
      refine (P1.out w1 B1.out).mono ?_
      rintro e w2 ⟨rfl, d, rfl⟩
      go_wp2
      go_ret2
      exact ⟨_, by rw [V.out.2]; rfl, by rw [V.out.1]; exact RowsAt.nil _ _ _, below_drewN B1.out _⟩
    | true =>
      cases a2 with
      | false =>
        have V := Lib.hid (VN.out (by rw [EQ.out]; rfl))
        clear VN VY EQ HL P3
        go_enter Try.func42, Try.ntmps42
        go_wp2_with fail
        refine HS.out.mono ?_
        rintro e w1 ⟨rfl, b1⟩
        have B1 := Lib.hid b1
        clear b1
        go_wp2_with fail
        refine (P1.out w1 B1.out).mono ?_
        rintro e w2 ⟨rfl, d, rfl⟩
        have B2 := Lib.hid (below_drewN B1.out d)
        go_wp2_with fail
        refine (P2.out _ B2.out).mono ?_
        rintro e w3 ⟨rfl, d2, rfl⟩
        go_wp2
        go_ret2
        exact ⟨_, by rw [V.out.2]; rfl, by rw [V.out.1]; exact RowsAt.nil _ _ _, below_drewN B1.out _⟩
      | true =>
        cases a3 with
        | false =>
          have V := Lib.hid (VN.out (by rw [EQ.out]; rfl))
          clear VN VY EQ HL
          go_enter Try.func42, Try.ntmps42
          go_wp2_with fail
          refine HS.out.mono ?_
          rintro e w1 ⟨rfl, b1⟩
          have B1 := Lib.hid b1
          clear b1
          go_wp2_with fail
          refine (P1.out w1 B1.out).mono ?_
          rintro e w2 ⟨rfl, d, rfl⟩
          have B2 := Lib.hid (below_drewN B1.out d)
          go_wp2_with fail
          refine (P2.out _ B2.out).mono ?_
          rintro e w3 ⟨rfl, d2, rfl⟩
          have B3 := Lib.hid (below_drewN B1.out (d + d2))
          go_wp2_with fail
          refine (P3.out _ B3.out).mono ?_
          rintro e w4 ⟨rfl, d3, rfl⟩
          go_wp2
          go_ret2
          exact ⟨_, by rw [V.out.2]; rfl, by rw [V.out.1]; exact RowsAt.nil _ _ _, below_drewN B1.out _⟩
        | true =>
          have ok : isoOk n rs cs ss = true := by rw [EQ.out]; rfl
          have V := Lib.hid (VY.out ok)
          have HL2 := Lib.hid (fun W' b => HL.out W' b ok)
          clear VN VY EQ HL ok
          go_enter Try.func42, Try.ntmps42
          go_wp2_with fail
          refine HS.out.mono ?_
          rintro e w1 ⟨rfl, b1⟩
          have B1 := Lib.hid b1
          clear b1
          go_wp2_with fail
          refine (P1.out w1 B1.out).mono ?_
          rintro e w2 ⟨rfl, d, rfl⟩
          have B2 := Lib.hid (below_drewN B1.out d)
          go_wp2_with fail
          refine (P2.out _ B2.out).mono ?_
          rintro e w3 ⟨rfl, d2, rfl⟩
          have B3 := Lib.hid (below_drewN B1.out (d + d2))
          go_wp2_with fail
          refine (P3.out _ B3.out).mono ?_
          rintro e w4 ⟨rfl, d3, rfl⟩
          have B4 := Lib.hid (below_drewN B1.out (d + d2 + d3))
          go_wp2_with fail
          refine (HL2.out _ B4.out).mono ?_
          rintro e w5 ⟨r, rfl, r5, b5⟩
          have R5 := Lib.hid r5.at
          have B5 := Lib.hid (t_chain B4.out b5)
          rw [← IL.out] at R5
          clear r5 b5
          go_wp2
          go_ret2
          exact ⟨_, by rw [V.out.2]; rfl, by rw [V.out.1]; exact R5.out, B5.out⟩
end Go.Proofs.Ytkbkaphgieimoaa
