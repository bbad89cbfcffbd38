/- SameSquare: both sides. -/
import Derived.Test.YtpgjomndfkkchaaSqm
import Derived.Test.YtpgjomndfkkchaaSame
import Derived.Shelf.Abstract
namespace Go.Proofs.Ytpgjomndfkkchaa
open Go.RowKit Go.Shelf
set_option linter.unusedVariables false

def SameSquare_0 (xss yss : List (List Int)) : Bool := decide (xss = yss)
theorem rows_ne_at {xss yss : List (List Int)} {j : Nat} (h : ¬ xss.getD j [] = yss.getD j []) : decide (xss = yss) = false := decide_eq_false (fun e => h (by rw [e]))
theorem rows_eq {xss yss : List (List Int)} (hl : xss.length = yss.length) (h : ∀ j, j < xss.length → xss.getD j [] = yss.getD j []) : decide (xss = yss) = true := by
  refine decide_eq_true (List.ext_getElem hl (fun i h1 h2 => ?_))
  have := h i h1
  simpa [List.getD, List.getElem?_eq_getElem h1, List.getElem?_eq_getElem h2] using this

set_option maxRecDepth 100000 in
set_option maxHeartbeats 4000000 in
/-- slices.EqualFunc with slices.Equal. -/
theorem iEqualRows (w : World) (u v : Value) (xss yss : List (List Int)) (hu : RowsAt w u xss) (hv : RowsAt w v yss) :
    Calls Try.prog 25 #[u, v, .func (.func 26) #[] #[]] w fun e w' => e = .returned (.bool (decide (xss = yss))) ∧ ∃ n, w' = w.drewN n := by
  obtain ⟨a, cap, rfl, -, hc⟩ := hu.cellsOf
  obtain ⟨a', cap', rfl, -, hc'⟩ := hv.cellsOf
  have hl := hu.1
  have hl' := hv.1
  have hcf := enters_of Try.func26 (by kernel_rfl) rfl
  by_cases e : xss.length = yss.length
  · have NE : Hid (∀ j, ¬ xss.getD j [] = yss.getD j [] → decide (xss = yss) = false) := fun j h => rows_ne_at h
    have YES : Hid ((∀ j, j < xss.length → xss.getD j [] = yss.getD j []) → decide (xss = yss) = true) := fun h => rows_eq e h
    rw [← e] at hc' ⊢
    have HC := Lib.hid hc
    have HC' := Lib.hid hc'
    obtain ⟨m, hm⟩ : ∃ m, xss.length = m := ⟨_, rfl⟩
    rw [hm] at HC HC' YES hl ⊢
    have e0 : ((m : Int) != (m : Int)) = false := by simp
    clear hm hc hc' hu hv e hl'
    go_enter Try.func25, Try.ntmps25
    go_wp2
    go_loopw [17] (fun i wr => ∃ j : Nat, j ≤ m ∧ i = .int .i64 j ∧ Hid (∀ k, k < j → xss.getD k [] = yss.getD k []) ∧ ∃ d, wr = w.drewN d) (fun i _ => m - (intOf i).toNat)
    case atStart => exact ⟨0, by omega, rfl, fun k hk => by omega, 0, rfl⟩
    case round =>
      obtain ⟨j, hj, rfl, hE, d, rfl⟩ := hrel
      by_cases c : j < m
      · have k1 : decide (j < m) = true := by simpa using c
        have k1' : decide ((j : Int) < (m : Int)) = true := decide_eq_true (by omega)
        have j0 : (0 : Int) ≤ (j : Int) := by omega
        have j1 : (j : Int) < (m : Int) := by omega
        have w3 := IntWalk.i64_in ((j : Int) + 1) (by omega)
        obtain ⟨g, off, x, rfl, hg, c1, hx⟩ := HC.out j c
        obtain ⟨g', off', y, rfl, hg', c2, hy⟩ := HC'.out j c
        obtain ⟨xa, xc, rfl⟩ := hx.shape
        obtain ⟨ya, yc, rfl⟩ := hy.shape
        have HE := Lib.hid (iequal (w.drewN d) _ _ _ _ (hx.1.drewN d) (hy.1.drewN d))
        have NJ := Lib.hid (NE.out j)
        obtain ⟨r, hr⟩ : ∃ r, xss.getD j [] = r := ⟨_, rfl⟩
        obtain ⟨s, hs⟩ : ∃ s, yss.getD j [] = s := ⟨_, rfl⟩
        have HRS := Lib.hid (And.intro hr hs)
        rw [hr, hs] at HE NJ
        rw [hr] at c1
        rw [hs] at c2
        obtain ⟨b, hb⟩ : ∃ b, decide (r = s) = b := ⟨_, rfl⟩
        rw [hb] at HE
        clear hx hy hr hs hg hg'
        cases b with
        | true =>
          have E2 : Hid (∀ k, k < j + 1 → xss.getD k [] = yss.getD k []) := fun k hk => by
            by_cases q : k = j
            · rw [q, HRS.out.1, HRS.out.2]; exact of_decide_eq_true hb
            · exact hE.out k (by omega)
          clear hb
          go_wp2_with fail
          refine HE.out.mono ?_
          rintro e w' ⟨rfl, d2, rfl⟩
          go_wp2
          go_roundw
          case rel => exact ⟨j + 1, by omega, by go_num, E2, _, rfl⟩
          case measure => simp [intOf]; omega
        | false =>
          have V := Lib.hid (NJ.out (of_decide_eq_false hb))
          clear hb
          go_wp2_with fail
          refine HE.out.mono ?_
          rintro e w' ⟨rfl, d2, rfl⟩
          go_wp2
          go_ret
          exact ⟨by rw [V.out]; rfl, _, rfl⟩
      · have k1 : decide (j < m) = false := by simpa using c
        have k1' : decide ((j : Int) < (m : Int)) = false := decide_eq_false (by omega)
        obtain rfl : j = m := by omega
        have V := Lib.hid (YES.out hE.out)
        go_wp2
        go_ret
        exact ⟨by rw [V.out]; rfl, _, rfl⟩
  · have V : Hid (decide (xss = yss) = false) := decide_eq_false (fun h => e (by rw [h]))
    obtain ⟨m, hm⟩ : ∃ m, xss.length = m := ⟨_, rfl⟩
    obtain ⟨n, hn⟩ : ∃ n, yss.length = n := ⟨_, rfl⟩
    rw [hm] at hl e ⊢
    rw [hn] at hl' e ⊢
    have e0 : ((m : Int) != (n : Int)) = true := by simp; omega
    have e0' : (m != n) = true := by simp [e]
    clear hm hn hc hc' hu hv e
    go_enter Try.func25, Try.ntmps25
    go_wp2
    go_ret
    exact ⟨by rw [V.out]; rfl, 0, rfl⟩

end Go.Proofs.Ytpgjomndfkkchaa
