/- Sets of points: rising lists. -/
import Derived.Test.YtodlcjdbpibacaaArg
namespace Go.Proofs.Ytodlcjdbpibacaa
open Go.RowKit
set_option linter.unusedVariables false

def okAt (lo hi : Int) (xs : List Int) (i : Nat) : Prop := lo ≤ xs.getD i 0 ∧ xs.getD i 0 ≤ hi ∧ (0 < i → xs.getD (i - 1) 0 < xs.getD i 0)
def Rises (lo hi : Int) (xs : List Int) : Prop := ∀ i, i < xs.length → okAt lo hi xs i
noncomputable def risesB (lo hi : Int) (xs : List Int) : Bool := @decide (Rises lo hi xs) (Classical.propDecidable _)
theorem risesB_true {lo hi : Int} {xs : List Int} (h : Rises lo hi xs) : risesB lo hi xs = true := @decide_eq_true _ (Classical.propDecidable _) h
theorem risesB_false {lo hi : Int} {xs : List Int} (h : ¬ Rises lo hi xs) : risesB lo hi xs = false := @decide_eq_false _ (Classical.propDecidable _) h
theorem of_risesB {lo hi : Int} {xs : List Int} (h : risesB lo hi xs = true) : Rises lo hi xs := @of_decide_eq_true _ (Classical.propDecidable _) h

set_option maxHeartbeats 800000 in
theorem srises (w : World) (v : Value) (xs : List Int) (lo hi : Int) (hv : IntsAt w v xs) :
    Calls Try.prog 24 #[v, .int .i64 lo, .int .i64 hi] w fun e w' => e = .returned (.bool (risesB lo hi xs)) ∧ ∃ n, w' = w.drewN n := by
  obtain ⟨hl, hv⟩ := hv
  rcases hv with ⟨rfl, a, cap, rfl⟩ | ⟨g, off, cap, rfl, hc⟩
  · have V := Lib.hid (show risesB lo hi [] = true from risesB_true fun i hi => absurd hi (by simp))
    go_enter Try.func24, Try.ntmps24
    go_wp2
    refine wp_loop_rounds 1 ?_
    rw [rounds_succ]
    go_wp2
    go_ret
    exact ⟨ret_b _ _ V.out.symm, 0, rfl⟩
  · have HC := Lib.hid hc
    clear hc
    obtain ⟨n, hn⟩ : ∃ n, xs.length = n := ⟨_, rfl⟩
    have HN := Lib.hid hn
    rw [hn] at hl ⊢
    clear hn
    go_enter Try.func24, Try.ntmps24
    go_wp2
    go_loopw [7] (fun i wr => ∃ j : Nat, j ≤ n ∧ i = .int .i64 j ∧ Hid (∀ k, k < j → okAt lo hi xs k) ∧ ∃ d, wr = w.drewN d) (fun i _ => n - (intOf i).toNat)
    case atStart => exact ⟨0, Nat.zero_le _, rfl, fun k hk => by omega, 0, rfl⟩
    case round =>
      obtain ⟨j, hj, rfl, hr, d, rfl⟩ := hrel
      by_cases hlt : j < n
      · obtain ⟨x, hx⟩ : ∃ x, xs.getD j 0 = x := ⟨_, rfl⟩
        have g1 := HC.out j (by rw [HN.out]; exact hlt)
        rw [hx] at g1
        have HX := Lib.hid hx
        have i1 : (0 : Int) ≤ (j : Int) := by omega
        have i2 : (j : Int) < (n : Int) := by omega
        clear hx
        by_cases hin : lo ≤ x ∧ x ≤ hi
        · obtain ⟨x1, x2⟩ := hin
          by_cases h0 : j = 0
          · subst h0
            have g0 : w.cell? ⟨g, off, none⟩ = some (.int .i64 x) := by simpa using g1
            have V := Lib.hid (show ∀ k, k < 0 + 1 → okAt lo hi xs k from fun k hk => by
              obtain rfl : k = 0 := by omega
              exact ⟨by rw [HX.out]; exact x1, by rw [HX.out]; exact x2, fun h => by omega⟩)
            go_wp2
            go_quiet ((go_at_call 31; first | exact Calls.quiet_of_same (in_yes' _ _ _ _ x1 x2) | exact quiet_same2 (in_yes' _ _ _ _ x1 x2)))
            go_wp2
            go_roundw
            case rel => exact ⟨0 + 1, by omega, by go_num, V, _, rfl⟩
            case measure => simp [intOf]; omega
          · have j0 : decide (0 < j) = true := by simp; omega
            obtain ⟨y, hy⟩ : ∃ y, xs.getD (j - 1) 0 = y := ⟨_, rfl⟩
            have g2 := HC.out (j - 1) (by rw [HN.out]; omega)
            rw [hy] at g2
            have HY := Lib.hid hy
            clear hy
            have e3 : IntKind.i64.wrap ((j : Int) - 1) = (j : Int) - 1 := IntWalk.i64_in _ (by omega)
            have e4 : ((j : Int) - 1).toNat = j - 1 := by omega
            have e5 : 1 ≤ (j : Int) := by omega
            have e6 : (j : Int) - 1 < (n : Int) := by omega
            have e7 : (0 : Int) ≤ (j : Int) - 1 := by omega
            by_cases hlt2 : y < x
            · have V := Lib.hid (show ∀ k, k < j + 1 → okAt lo hi xs k from fun k hk => by
                by_cases e : k = j
                · subst e; exact ⟨by rw [HX.out]; exact x1, by rw [HX.out]; exact x2, fun _ => by rw [HX.out, HY.out]; exact hlt2⟩
                · exact hr.out k (by omega))
              go_wp2
              go_quiet ((go_at_call 31; first | exact Calls.quiet_of_same (in_yes' _ _ _ _ x1 x2) | exact quiet_same2 (in_yes' _ _ _ _ x1 x2)))
              go_wp2
              go_roundw
              case rel => exact ⟨j + 1, by omega, by go_num, V, _, rfl⟩
              case measure => simp [intOf]; omega
            · have V := Lib.hid (show risesB lo hi xs = false from risesB_false fun h => by
                have := (h j (by rw [HN.out]; exact hlt)).2.2 (by omega)
                rw [HX.out, HY.out] at this
                exact hlt2 this)
              go_wp2
              go_quiet ((go_at_call 31; first | exact Calls.quiet_of_same (in_yes' _ _ _ _ x1 x2) | exact quiet_same2 (in_yes' _ _ _ _ x1 x2)))
              go_wp2
              go_ret
              exact ⟨ret_b _ _ V.out.symm, _, World.drewN_drewN _ _ _⟩
        · have hin' := Lib.hid (show x < lo ∨ hi < x by omega)
          have V := Lib.hid (show risesB lo hi xs = false from risesB_false fun h => by
            have := h j (by rw [HN.out]; exact hlt)
            unfold okAt at this
            rw [HX.out] at this
            exact hin ⟨this.1, this.2.1⟩)
          clear hin
          go_wp2
          go_quiet ((go_at_call 31; first | exact Calls.quiet_of_same (in_no' _ _ _ _ hin'.out) | exact quiet_same2 (in_no' _ _ _ _ hin'.out)))
          go_wp2
          go_ret
          exact ⟨ret_b _ _ V.out.symm, _, World.drewN_drewN _ _ _⟩
      · have V := Lib.hid (show risesB lo hi xs = true from risesB_true fun i hi => hr.out i (by have := HN.out; omega))
        go_wp2
        go_ret
        exact ⟨ret_b _ _ V.out.symm, _, rfl⟩
end Go.Proofs.Ytodlcjdbpibacaa
