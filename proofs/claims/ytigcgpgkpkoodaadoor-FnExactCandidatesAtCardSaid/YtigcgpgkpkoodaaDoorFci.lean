/- FillCell: the program. -/
import Derived.Test.YtigcgpgkpkoodaaDoorFc
namespace Go.Proofs.YtigcgpgkpkoodaaDoor
open Go.RowKit Go.Shelf
set_option linter.unusedVariables false

theorem PtV.range {w : World} {g n : Nat} {G : Nat → Nat → Int} {r c : Nat → Nat} (h : PtV w g n G r c) : w.rangeAt g 0 (iar 101 (sqC n G)).toList := by
  have := World.rangeAt_of_block h 0 101
  have e : (var 121 (pV n G r c)).extract 0 101 = iar 101 (sqC n G) := by
    apply Array.ext_getElem?
    intro i
    rw [Array.getElem?_extract]
    by_cases c : i < 101
    · rw [if_pos (by rw [var_size]; omega), Nat.zero_add, var_get _ _ _ (by omega), iar_get _ _ _ c]
      unfold pV
      rw [if_pos c]
    · rw [if_neg (by rw [var_size]; omega), Array.getElem?_eq_none (by rw [iar_size]; omega)]
  rwa [Nat.zero_add, e] at this

set_option maxRecDepth 100000 in
set_option maxHeartbeats 8000000 in
theorem iepo (xss : List (List Int)) (a b : Int) (w : World) (v : Value) (hv : RowsAt w v xss) :
    Calls Tryd.prog 61 #[v, .int .i64 a, .int .i64 b] w fun e w' => ∃ p, e = .returned (.tuple #[p, .int .i64 (cdC xss a b)]) ∧ (cdC xss a b = 0 → ∃ g, p = .pointer (some ⟨g, 0, none⟩) ∧ w.heap.size ≤ g ∧ PtAt w' g xss.length (sqF xss.length (cellF xss))) ∧ Below w.heap.size w w' := by
  have HP := Lib.hid (ipart w v xss hv)
  cases hp : ptB xss with
  | false =>
    have V := Lib.hid (cdC_bad (a := a) (b := b) hp)
    rw [hp] at HP
    clear hp hv
    go_enter Tryd.func61, Tryd.ntmps61
    go_wp2_with fail
    refine HP.out.mono ?_
    rintro e w1 ⟨p, rfl, -, b1⟩
    have B1 := Lib.hid b1
    clear b1
    go_wp2
    go_ret2
    exact ⟨_, by rw [V.out]; rfl, (fun h => by rw [V.out] at h; cases h), B1.out⟩
  | true =>
    have VO := Lib.hid (fun k => cdC_out (a := a) (b := b) hp k)
    have VF := Lib.hid (fun k q => cdC_full (a := a) (b := b) hp k q)
    have VK := Lib.hid (fun k q => cdC_ok (a := a) (b := b) hp k q)
    have S := of_ptB hp
    rw [hp] at HP
    have nhi := S.hi
    have nlo := S.lo
    have SC := Lib.hid S.pf.cell
    obtain ⟨n, hn⟩ : ∃ n, xss.length = n := ⟨_, rfl⟩
    rw [hn] at HP VO VF VK nhi nlo SC ⊢
    obtain ⟨F, hF⟩ : ∃ F, cellF xss = F := ⟨_, rfl⟩
    rw [hF] at HP VF VK SC ⊢
    obtain ⟨q, hq⟩ : ∃ q, cdC xss a b = q := ⟨_, rfl⟩
    rw [hq] at VO VF VK ⊢
    clear hp hv S hn hF hq
    go_enter Tryd.func61, Tryd.ntmps61
    go_wp2_with fail
    refine HP.out.mono ?_
    rintro e w1 ⟨p, rfl, hP, b1⟩
    obtain ⟨g, rfl, hg, r, c, P, R, C⟩ := hP (by trivial)
    have m0 := P.order
    have B1 := Lib.hid b1
    have HP1 := Lib.hid P
    have HPT : Hid (PtAt w1 g n (sqF n F)) := ⟨r, c, P, R, C⟩
    clear hP b1 R C
    by_cases k : In2 n a b
    case neg =>
      have V := Lib.hid (VO.out k)
      unfold In2 at k
      clear VO VF VK P
      by_cases c1 : a < 0
      · have t1 : decide (0 ≤ a) = false := decide_eq_false (by omega)
        clear k c1
        go_wp2
        go_ret2
        exact ⟨_, by rw [V.out]; rfl, (fun h => by rw [V.out] at h; cases h), B1.out⟩
      · have t1 : decide (0 ≤ a) = true := decide_eq_true (by omega)
        by_cases c2 : (n : Int) ≤ a
        · have t2 : decide (a < (n : Int)) = false := decide_eq_false (by omega)
          clear k c1 c2
          go_wp2
          go_ret2
          exact ⟨_, by rw [V.out]; rfl, (fun h => by rw [V.out] at h; cases h), B1.out⟩
        · have t2 : decide (a < (n : Int)) = true := decide_eq_true (by omega)
          by_cases c3 : b < 0
          · have t3 : decide (0 ≤ b) = false := decide_eq_false (by omega)
            clear k c1 c2 c3
            go_wp2
            go_ret2
            exact ⟨_, by rw [V.out]; rfl, (fun h => by rw [V.out] at h; cases h), B1.out⟩
          · have t3 : decide (0 ≤ b) = true := decide_eq_true (by omega)
            have t4 : decide (b < (n : Int)) = false := decide_eq_false (by omega)
            clear k c1 c2 c3
            go_wp2
            go_ret2
            exact ⟨_, by rw [V.out]; rfl, (fun h => by rw [V.out] at h; cases h), B1.out⟩
    have VF2 := Lib.hid (VF.out k)
    have VK2 := Lib.hid (VK.out k)
    unfold In2 at k
    obtain ⟨⟨a0, a1⟩, b0, b1⟩ := k
    obtain ⟨A, rfl⟩ : ∃ A : Nat, a = A := ⟨a.toNat, by omega⟩
    obtain ⟨D, rfl⟩ : ∃ D : Nat, b = D := ⟨b.toNat, by omega⟩
    rw [Int.toNat_natCast, Int.toNat_natCast] at VF2 VK2
    have A1 : A < n := by omega
    have D1 : D < n := by omega
    have m1 := P.sym (x := A) (y := D) (by omega) (by omega)
    rw [sqF_in _ A1 D1] at m1
    have sc := SC.out A D A1 D1
    have t1 : decide (0 ≤ (A : Int)) = true := decide_eq_true (by omega)
    have t2 : decide ((A : Int) < (n : Int)) = true := decide_eq_true (by omega)
    have t2' : decide (A < n) = true := decide_eq_true A1
    have t3 : decide (0 ≤ (D : Int)) = true := decide_eq_true (by omega)
    have t4 : decide ((D : Int) < (n : Int)) = true := decide_eq_true (by omega)
    have t4' : decide (D < n) = true := decide_eq_true D1
    have A10 : (A : Int) < 10 := by omega
    have D10 : (D : Int) < 10 := by omega
    obtain ⟨u, hu⟩ : ∃ u, F A D = u := ⟨_, rfl⟩
    rw [hu] at m1 sc VF2 VK2
    clear VO VF VK P a1 b1 hu SC
    by_cases h : 0 ≤ u
    · have V := Lib.hid (VF2.out h)
      have tu : (u != -1) = true := by simp; omega
      clear VF2 VK2 h sc
      go_wp2
      go_ret2
      exact ⟨_, by rw [V.out]; rfl, (fun h => by rw [V.out] at h; cases h), B1.out⟩
    · have V := Lib.hid (VK2.out (by first | exact h | omega))
      have tu : (u != -1) = false := by simp; omega
      clear VF2 VK2 h sc
      go_wp2
      go_ret2
      exact ⟨_, by rw [V.out]; rfl, (fun _ => ⟨g, rfl, hg, HPT.out⟩), B1.out⟩

end Go.Proofs.YtigcgpgkpkoodaaDoor
