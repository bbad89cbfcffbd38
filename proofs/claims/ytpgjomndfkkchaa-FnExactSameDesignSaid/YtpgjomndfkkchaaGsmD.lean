/- Structures of a number and rows: whether two are equal. -/
import Derived.Test.YtpgjomndfkkchaaSqs
import Derived.Test.YtpgjomndfkkchaaGrpD
namespace Go.Proofs.Ytpgjomndfkkchaa
open Go.RowKit
set_option linter.unusedVariables false

set_option maxRecDepth 100000 in
set_option maxHeartbeats 4000000 in
theorem sSameLists (w : World) (u v : Value) (xss yss : List (List Int)) (hu : RowsAt w u xss) (hv : RowsAt w v yss) :
    Calls Try.prog 24 #[u, v] w fun e w' => e = .returned (.bool (decide (xss = yss))) ∧ ∃ n, w' = w.drewN n := by
  obtain ⟨a, cap, rfl, -, hc⟩ := hu.cellsOf
  obtain ⟨a', cap', rfl, -, hc'⟩ := hv.cellsOf
  have hl := hu.1
  have hl' := hv.1
  by_cases e : xss.length = yss.length
  · have NE : Hid (∀ j, ¬ xss.getD j [] = yss.getD j [] → decide (xss = yss) = false) := fun j h => rows_ne_at h
    have YES : Hid ((∀ j, j < xss.length → xss.getD j [] = yss.getD j []) → decide (xss = yss) = true) := fun h => rows_eq e h
    rw [← e] at hc' ⊢
    have HC := Lib.hid hc
    have HC' := Lib.hid hc'
    obtain ⟨m, hm⟩ : ∃ m, xss.length = m := ⟨_, rfl⟩
    rw [hm] at HC HC' YES hl ⊢
    have e0 : ((m : Int) != (m : Int)) = false := by simp
    clear hm hc hc' hu hv e hl'
    go_enter Try.func24, Try.ntmps24
    go_wp2
    go_loopw [5] (fun i wr => ∃ j : Nat, j ≤ m ∧ i = .int .i64 j ∧ Hid (∀ k, k < j → xss.getD k [] = yss.getD k []) ∧ ∃ d, wr = w.drewN d) (fun i _ => m - (intOf i).toNat)
    case atStart => exact ⟨0, by omega, rfl, fun k hk => by omega, 0, rfl⟩
    case round =>
      obtain ⟨j, hj, rfl, hE, d, rfl⟩ := hrel
      by_cases c : j < m
      · have k1 : decide (j < m) = true := by simpa using c
        have k1' : decide ((j : Int) < (m : Int)) = true := decide_eq_true (by omega)
        have j0 : (0 : Int) ≤ (j : Int) := by omega
        have j1 : (j : Int) < (m : Int) := by omega
        have w3 := IntWalk.i64_in ((j : Int) + 1) (by omega)
        obtain ⟨g, off, x, rfl, hg, c1, hx⟩ := HC.out j c
        obtain ⟨g', off', y, rfl, hg', c2, hy⟩ := HC'.out j c
        obtain ⟨xa, xc, rfl⟩ := hx.shape
        obtain ⟨ya, yc, rfl⟩ := hy.shape
        have HE := Lib.hid (fun W (h1 : IntsAt W _ _) (h2 : IntsAt W _ _) => ssame W (.slice xa (xss.getD j []).length xc) (.slice ya (yss.getD j []).length yc) (xss.getD j []) (yss.getD j []) h1 h2)
        have X1 := Lib.hid (fun k => (hx.1.drewN d).drewN k)
        have Y1 := Lib.hid (fun k => (hy.1.drewN d).drewN k)
        have X2 := Lib.hid (fun k => hx.1.drewN k)
        have Y2 := Lib.hid (fun k => hy.1.drewN k)
        have NJ := Lib.hid (NE.out j)
        obtain ⟨r, hr⟩ : ∃ r, xss.getD j [] = r := ⟨_, rfl⟩
        obtain ⟨s, hs⟩ : ∃ s, yss.getD j [] = s := ⟨_, rfl⟩
        have HRS := Lib.hid (And.intro hr hs)
        rw [hr, hs] at HE NJ
        rw [hr] at c1 X1 X2
        rw [hs] at c2 Y1 Y2
        obtain ⟨b, hb⟩ : ∃ b, decide (r = s) = b := ⟨_, rfl⟩
        rw [hb] at HE
        clear hx hy hr hs hg hg'
        cases b with
        | true =>
          have E2 : Hid (∀ k, k < j + 1 → xss.getD k [] = yss.getD k []) := fun k hk => by
            by_cases q : k = j
            · rw [q, HRS.out.1, HRS.out.2]; exact of_decide_eq_true hb
            · exact hE.out k (by omega)
          clear hb
          go_wp2
          go_quiet ((go_at_call 40; first | exact Calls.quiet_of (HE.out _ (X1.out _) (Y1.out _)) | exact quiet_drew2 (HE.out _ (X2.out _) (Y2.out _))))
          go_wp2
          go_roundw
          case rel => exact ⟨j + 1, by omega, by go_num, E2, _, rfl⟩
          case measure => simp [intOf]; omega
        | false =>
          have V := Lib.hid (NJ.out (of_decide_eq_false hb))
          clear hb
          go_wp2
          go_quiet ((go_at_call 40; first | exact Calls.quiet_of (HE.out _ (X1.out _) (Y1.out _)) | exact quiet_drew2 (HE.out _ (X2.out _) (Y2.out _))))
          go_wp2
          go_ret
          exact ⟨by rw [V.out]; rfl, _, by first | exact World.drewN_drewN .. | rfl⟩
      · have k1 : decide (j < m) = false := by simpa using c
        have k1' : decide ((j : Int) < (m : Int)) = false := decide_eq_false (by omega)
        obtain rfl : j = m := by omega
        have V := Lib.hid (YES.out hE.out)
        go_wp2
        go_ret
        exact ⟨by rw [V.out]; rfl, _, rfl⟩
  · have V : Hid (decide (xss = yss) = false) := decide_eq_false (fun h => e (by rw [h]))
    obtain ⟨m, hm⟩ : ∃ m, xss.length = m := ⟨_, rfl⟩
    obtain ⟨n, hn⟩ : ∃ n, yss.length = n := ⟨_, rfl⟩
    rw [hm] at hl e ⊢
    rw [hn] at hl' e ⊢
    have e0 : ((m : Int) != (n : Int)) = true := by simp; omega
    have e0' : (m != n) = true := by simp [e]
    clear hm hn hc hc' hu hv e
    go_enter Try.func24, Try.ntmps24
    go_wp2
    go_ret
    exact ⟨by rw [V.out]; rfl, 0, rfl⟩


def sameG (n m : Int) (xss yss : List (List Int)) : Bool := decide (n = m) && decide (xss = yss)
theorem two_boxes (w : World) (n m : Int) (u v : Value) (T U : TypeId) : Below w.heap.size w ((w.alloc (.cells #[.int .i64 n, u] T)).alloc (.cells #[.int .i64 m, v] U)) := (box2 w n u T).alloc (by rw [World.size_alloc]; omega) _

set_option maxHeartbeats 1000000 in
theorem sSameDesign (n m : Int) (xss yss : List (List Int)) (W : World) (u v : Value) (hu : RowsAt W u xss) (hv : RowsAt W v yss) :
    Calls Try.prog 11 #[.agg #[.int .i64 n, u], .agg #[.int .i64 m, v]] W fun e w' => e = .returned (.bool (sameG n m xss yss)) ∧ Below W.heap.size W w' := by
  have b2 := two_boxes W n m u v 27 27
  have HE := Lib.hid (sSameLists _ u v xss yss (hu.below b2 (Nat.le_refl _)) (hv.below b2 (Nat.le_refl _)))
  obtain ⟨a, cap, rfl, -⟩ := hu.shape
  obtain ⟨a', cap', rfl, -⟩ := hv.shape
  have B2 := Lib.hid b2
  clear hu hv b2
  by_cases h : n = m
  · subst h
    have t : (n == n) = true := by simp
    have V : Hid (sameG n n xss yss = decide (xss = yss)) := by unfold Hid sameG; simp
    obtain ⟨z, hz⟩ : ∃ z, decide (xss = yss) = z := ⟨_, rfl⟩
    rw [hz] at HE V
    clear hz
    go_enter Try.func11, Try.ntmps11
    go_wp2_with fail
    refine HE.out.mono ?_
    rintro e w1 ⟨rfl, d, rfl⟩
    go_wp2
    go_ret
    exact ⟨by rw [V.out]; rfl, below_drewN B2.out _⟩
  · have t : (n == m) = false := by simpa using h
    have V : Hid (sameG n m xss yss = false) := by unfold Hid sameG; rw [decide_eq_false h]; rfl
    clear h
    go_enter Try.func11, Try.ntmps11
    go_wp2
    go_ret
    exact ⟨by rw [V.out]; rfl, B2.out⟩

set_option maxHeartbeats 1000000 in
theorem iSameDesign (n m : Int) (xss yss : List (List Int)) (W : World) (u v : Value) (hu : RowsAt W u xss) (hv : RowsAt W v yss) :
    Calls Try.prog 12 #[.agg #[.int .i64 n, u], .agg #[.int .i64 m, v]] W fun e w' => e = .returned (.bool (sameG n m xss yss)) ∧ Below W.heap.size W w' := by
  have b2 := two_boxes W n m u v 27 27
  have HE := Lib.hid (iEqualRows _ u v xss yss (hu.below b2 (Nat.le_refl _)) (hv.below b2 (Nat.le_refl _)))
  obtain ⟨a, cap, rfl, -⟩ := hu.shape
  obtain ⟨a', cap', rfl, -⟩ := hv.shape
  have B2 := Lib.hid b2
  clear hu hv b2
  by_cases h : n = m
  · subst h
    have t : (n == n) = true := by simp
    have V : Hid (sameG n n xss yss = decide (xss = yss)) := by unfold Hid sameG; simp
    obtain ⟨z, hz⟩ : ∃ z, decide (xss = yss) = z := ⟨_, rfl⟩
    rw [hz] at HE V
    clear hz
    go_enter Try.func12, Try.ntmps12
    go_wp2_with fail
    refine HE.out.mono ?_
    rintro e w1 ⟨rfl, d, rfl⟩
    go_wp2
    go_ret
    exact ⟨by rw [V.out]; rfl, below_drewN B2.out _⟩
  · have t : (n == m) = false := by simpa using h
    have V : Hid (sameG n m xss yss = false) := by unfold Hid sameG; rw [decide_eq_false h]; rfl
    clear h
    go_enter Try.func12, Try.ntmps12
    go_wp2
    go_ret
    exact ⟨by rw [V.out]; rfl, B2.out⟩
end Go.Proofs.Ytpgjomndfkkchaa
