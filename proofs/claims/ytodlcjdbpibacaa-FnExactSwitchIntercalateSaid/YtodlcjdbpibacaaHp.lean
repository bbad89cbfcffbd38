/- The program: whether all lists are permutations of a degree. -/
import Derived.Test.YtodlcjdbpibacaaMov
import Derived.Test.YtodlcjdbpibacaaBa
namespace Go.Proofs.Ytodlcjdbpibacaa
open Go.RowKit
set_option linter.unusedVariables false

def rowD (d : Nat) (xss : List (List Int)) (x : Nat) : Prop := (xss.getD x []).length = d ∧ pmB (xss.getD x []) = true
noncomputable def hpB (d : Nat) (xss : List (List Int)) : Bool := @decide (∀ x, x < xss.length → rowD d xss x) (Classical.propDecidable _)
theorem hpB_true {d : Nat} {xss : List (List Int)} (h : ∀ x, x < xss.length → rowD d xss x) : hpB d xss = true := @decide_eq_true _ (Classical.propDecidable _) h
theorem hpB_false {d : Nat} {xss : List (List Int)} {x : Nat} (hx : x < xss.length) (h : ¬ rowD d xss x) : hpB d xss = false := @decide_eq_false _ (Classical.propDecidable _) (fun k => h (k x hx))
theorem of_hpB {d : Nat} {xss : List (List Int)} (h : hpB d xss = true) : ∀ x, x < xss.length → rowD d xss x := @of_decide_eq_true _ (Classical.propDecidable _) h

set_option maxRecDepth 100000 in
set_option maxHeartbeats 4000000 in
theorem ihp (d : Nat) (hd : d ≤ 1000000) (w : World) (v : Value) (xss : List (List Int)) (hv : RowsAt w v xss) :
    Calls Try.prog 26 #[.int .i64 d, v] w fun e w' => e = .returned (.bool (hpB d xss)) ∧ Below w.heap.size w w' := by
  obtain ⟨a, cap, rfl, hk, hc⟩ := hv.cellsOf
  have hml := hv.1
  have NO : Hid (∀ x, x < xss.length → ¬ rowD d xss x → hpB d xss = false) := fun x hx h => hpB_false hx h
  have YES : Hid ((∀ x, x < xss.length → rowD d xss x) → hpB d xss = true) := fun h => hpB_true h
  have RO : Hid (∀ x, rowD d xss x ↔ ((xss.getD x []).length = d ∧ pmB (xss.getD x []) = true)) := fun x => Iff.rfl
  have HC := Lib.hid hc
  obtain ⟨n, hn⟩ : ∃ n, xss.length = n := ⟨_, rfl⟩
  rw [hn] at HC NO YES hk hml ⊢
  clear hv hc hn
  go_enter Try.func26, Try.ntmps26
  go_wp2
  go_loopw [9] (fun i wr => ∃ j : Nat, j ≤ n ∧ i = .int .i64 j ∧ Hid (∀ k, k < j → rowD d xss k) ∧ Hid (Below w.heap.size w wr)) (fun i _ => n - (intOf i).toNat)
  case atStart => exact ⟨0, by omega, rfl, fun k hk => by omega, Below.refl _ _⟩
  case round =>
    obtain ⟨j, hj, rfl, hO, hBl⟩ := hrel
    by_cases c : j < n
    · have k1 : decide (j < n) = true := by simpa using c
      have k1' : decide ((j : Int) < (n : Int)) = true := decide_eq_true (by omega)
      obtain ⟨g, off, u, rfl, hg, cj0, hu⟩ := HC.out j c
      obtain ⟨ua, uc, rfl⟩ := hu.shape
      have cj := (hBl.out.cell (p := ⟨g, off + j, none⟩) hg).trans cj0
      have NJ := Lib.hid (NO.out j c)
      have RJ := Lib.hid (RO.out j)
      have sz := hBl.out.size
      have j0 : (0 : Int) ≤ (j : Int) := by omega
      have j1 : (j : Int) < (n : Int) := by omega
      have w3 := IntWalk.i64_in ((j : Int) + 1) (by omega)
      have HP := Lib.hid (iok wr _ _ (hu.below hBl.out (Nat.le_refl _)))
      obtain ⟨b, hb⟩ : ∃ b, pmB (xss.getD j []) = b := ⟨_, rfl⟩
      rw [hb] at HP RJ
      obtain ⟨l, hl⟩ : ∃ l, (xss.getD j []).length = l := ⟨_, rfl⟩
      rw [hl] at cj HP RJ
      have ll : l ≤ 9223372036854775807 := by rw [← hl]; exact hu.1.1
      clear hu hl hb hg cj0
      by_cases el : l = d
      · subst el
        have e1 : ((l : Int) != (l : Int)) = false := by simp
        have e1' : (l != l) = false := by simp
        cases b with
        | true =>
          have O2 : Hid (∀ k, k < j + 1 → rowD l xss k) := fun k hk => by
            by_cases e : k = j
            · rw [e]; exact RJ.out.2 ⟨rfl, rfl⟩
            · exact hO.out k (by omega)
          go_wp2_with fail
          refine HP.out.mono ?_
          rintro e w' ⟨rfl, b2⟩
          have B2 := Lib.hid (hBl.out.trans (b2.mono sz))
          clear b2
          go_wp2
          go_roundw
          case rel => exact ⟨j + 1, by omega, by go_num, O2, B2⟩
          case measure => simp [intOf]; omega
        | false =>
          have V := Lib.hid (NJ.out (fun h => by have := (RJ.out.1 h).2; cases this))
          go_wp2_with fail
          refine HP.out.mono ?_
          rintro e w' ⟨rfl, b2⟩
          have B2 := Lib.hid (hBl.out.trans (b2.mono sz))
          clear b2
          go_wp2
          go_ret
          exact ⟨by rw [V.out]; rfl, B2.out⟩
      · have V := Lib.hid (NJ.out (fun h => el (RJ.out.1 h).1))
        have e1 : ((l : Int) != (d : Int)) = true := by simp; omega
        have e1' : (l != d) = true := by simp [el]
        clear el
        go_wp2
        go_ret
        exact ⟨by rw [V.out]; rfl, hBl.out⟩
    · have k1 : decide (j < n) = false := by simpa using c
      have k1' : decide ((j : Int) < (n : Int)) = false := decide_eq_false (by omega)
      obtain rfl : j = n := by omega
      have V := Lib.hid (YES.out hO.out)
      go_wp2
      go_ret
      exact ⟨by rw [V.out]; rfl, hBl.out⟩
end Go.Proofs.Ytodlcjdbpibacaa
