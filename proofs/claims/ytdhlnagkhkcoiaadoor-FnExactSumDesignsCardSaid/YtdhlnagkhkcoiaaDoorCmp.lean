/- CompareLists of both packages. -/
import Derived.Test.YtdhlnagkhkcoiaaDoorArg
namespace Go.Proofs.YtdhlnagkhkcoiaaDoor
open Go.RowKit
set_option linter.unusedVariables false

def cmp3 (x y : Int) : Int := if x < y then -1 else if y < x then 1 else 0
def cmpL : List Int → List Int → Int
  | [], [] => 0
  | [], _ :: _ => -1
  | _ :: _, [] => 1
  | x :: xs, y :: ys => if x < y then -1 else if y < x then 1 else cmpL xs ys

theorem drop_at (xs : List Int) (j : Nat) (h : j < xs.length) : xs.drop j = xs.getD j 0 :: xs.drop (j + 1) := by
  rw [List.drop_eq_getElem_cons h]; simp [List.getD, List.getElem?_eq_getElem h]

theorem cmp_lt {xs ys : List Int} {j : Nat} (h : cmpL (xs.drop j) (ys.drop j) = cmpL xs ys) (a : j < xs.length) (b : j < ys.length) (c : xs.getD j 0 < ys.getD j 0) : cmpL xs ys = -1 := by
  rw [← h, drop_at xs j a, drop_at ys j b, cmpL, if_pos c]
theorem cmp_gt {xs ys : List Int} {j : Nat} (h : cmpL (xs.drop j) (ys.drop j) = cmpL xs ys) (a : j < xs.length) (b : j < ys.length) (c : ys.getD j 0 < xs.getD j 0) : cmpL xs ys = 1 := by
  rw [← h, drop_at xs j a, drop_at ys j b, cmpL, if_neg (by omega), if_pos c]
theorem cmp_eq {xs ys : List Int} {j : Nat} (h : cmpL (xs.drop j) (ys.drop j) = cmpL xs ys) (a : j < xs.length) (b : j < ys.length) (c : xs.getD j 0 = ys.getD j 0) : cmpL (xs.drop (j + 1)) (ys.drop (j + 1)) = cmpL xs ys := by
  rw [← h, drop_at xs j a, drop_at ys j b, cmpL, if_neg (by omega), if_neg (by omega)]
theorem cmp_end {xs ys : List Int} {j : Nat} (h : cmpL (xs.drop j) (ys.drop j) = cmpL xs ys) (a : j ≤ xs.length) (b : j ≤ ys.length) (c : j = xs.length ∨ j = ys.length) : cmpL xs ys = cmp3 xs.length ys.length := by
  rw [← h]
  unfold cmp3
  rcases Nat.lt_trichotomy xs.length ys.length with l | l | l
  · rw [if_pos (by omega), List.drop_of_length_le (l := xs) (by omega), drop_at ys j (by omega), cmpL]
  · rw [if_neg (by omega), if_neg (by omega), List.drop_of_length_le (l := xs) (by omega), List.drop_of_length_le (l := ys) (by omega), cmpL]
  · rw [if_neg (by omega), if_pos (by omega), List.drop_of_length_le (l := ys) (by omega), drop_at xs j (by omega), cmpL]

/-- A slice, its shape and its cells. -/
theorem IntsAt.shape {w : World} {v : Value} {xs : List Int} (h : IntsAt w v xs) : ∃ a cap, v = .slice a xs.length cap ∧ xs.length ≤ 9223372036854775807 ∧
    ∀ j, j < xs.length → ∃ g off, a = some ⟨g, off, none⟩ ∧ w.cell? ⟨g, off + j, none⟩ = some (.int .i64 (xs.getD j 0)) := by
  obtain ⟨hl, ⟨rfl, a, cap, rfl⟩ | ⟨g, off, cap, rfl, hc⟩⟩ := h
  · exact ⟨a, cap, rfl, hl, fun j hj => absurd hj (by simp)⟩
  · exact ⟨_, cap, rfl, hl, fun j hj => ⟨g, off, rfl, hc j hj⟩⟩

set_option maxHeartbeats 800000 in
theorem scmp (w : World) (u v : Value) (xs ys : List Int) (hu : IntsAt w u xs) (hv : IntsAt w v ys) :
    Calls Tryd.prog 57 #[u, v] w fun e w' => e = .returned (.int .i64 (cmpL xs ys)) ∧ ∃ k, w' = w.drewN k := by
  obtain ⟨a, cap, rfl, hl, hc⟩ := hu.shape
  obtain ⟨a', cap', rfl, hl', hc'⟩ := hv.shape
  have HC := Lib.hid hc
  have HC' := Lib.hid hc'
  obtain ⟨m, hm⟩ : ∃ m, xs.length = m := ⟨_, rfl⟩
  obtain ⟨n, hn⟩ : ∃ n, ys.length = n := ⟨_, rfl⟩
  have HM := Lib.hid hm
  have HN := Lib.hid hn
  rw [hm] at hl ⊢
  rw [hn] at hl' ⊢
  clear hm hn hc hc' hu hv
  go_enter Tryd.func57, Tryd.ntmps57
  go_wp2
  go_loopw [5] (fun i wr => ∃ j : Nat, j ≤ m ∧ j ≤ n ∧ i = .int .i64 j ∧ Hid (cmpL (xs.drop j) (ys.drop j) = cmpL xs ys) ∧ ∃ d, wr = w.drewN d) (fun i _ => m - (intOf i).toNat)
  case atStart => exact ⟨0, Nat.zero_le _, Nat.zero_le _, rfl, rfl, 0, rfl⟩
  case round =>
    obtain ⟨j, hj, hj', rfl, hr, d, rfl⟩ := hrel
    by_cases hlt : j < m
    · by_cases hlt' : j < n
      · obtain ⟨x, hx⟩ : ∃ x, xs.getD j 0 = x := ⟨_, rfl⟩
        obtain ⟨y, hy⟩ : ∃ y, ys.getD j 0 = y := ⟨_, rfl⟩
        obtain ⟨g, off, ha, g1⟩ := HC.out j (by rw [HM.out]; exact hlt)
        obtain ⟨g', off', ha', g1'⟩ := HC'.out j (by rw [HN.out]; exact hlt')
        rw [hx] at g1
        rw [hy] at g1'
        have HX := Lib.hid hx
        have HY := Lib.hid hy
        subst ha ha'
        have i1 : (0 : Int) ≤ (j : Int) := by omega
        have i2 : (j : Int) < (m : Int) := by omega
        have i3 : (j : Int) < (n : Int) := by omega
        clear hx hy
        by_cases h1 : x < y
        · have V := Lib.hid (cmp_lt hr.out (by rw [HM.out]; exact hlt) (by rw [HN.out]; exact hlt') (by rw [HX.out, HY.out]; exact h1))
          go_wp2
          go_quiet (fail)
          go_wp2
          go_ret
          exact ⟨ret_i _ _ V.out.symm, _, World.drewN_drewN _ _ _⟩
        · have h1' : decide (x < y) = false := by simpa using h1
          by_cases h2 : y < x
          · have V := Lib.hid (cmp_gt hr.out (by rw [HM.out]; exact hlt) (by rw [HN.out]; exact hlt') (by rw [HX.out, HY.out]; exact h2))
            go_wp2
            go_quiet (fail)
            go_wp2
            go_quiet (fail)
            go_wp2
            go_ret
            exact ⟨ret_i _ _ V.out.symm, _, by rw [World.drewN_drewN, World.drewN_drewN]⟩
          · have h2' : decide (y < x) = false := by simpa using h2
            have V := Lib.hid (cmp_eq hr.out (by rw [HM.out]; exact hlt) (by rw [HN.out]; exact hlt') (by rw [HX.out, HY.out]; omega))
            go_wp2
            go_quiet (fail)
            go_wp2
            go_quiet (fail)
            go_wp2
            go_roundw
            case rel => exact ⟨j + 1, by omega, by omega, by go_num, V, _, rfl⟩
            case measure => simp [intOf]; omega
      · have V := Lib.hid (cmp_end hr.out (by rw [HM.out]; exact hj) (by rw [HN.out]; exact hj') (.inr (by have := HN.out; omega)))
        by_cases e : n < m
        · have V' := Lib.hid (show cmpL xs ys = 1 by rw [V.out, HM.out, HN.out]; unfold cmp3; rw [if_neg (by omega), if_pos (by omega)])
          go_wp2
          go_ret
          exact ⟨ret_i _ _ V'.out.symm, _, rfl⟩
        · omega
    · have V := Lib.hid (cmp_end hr.out (by rw [HM.out]; exact hj) (by rw [HN.out]; exact hj') (.inl (by have := HM.out; omega)))
      by_cases e : m < n
      · have V' := Lib.hid (show cmpL xs ys = -1 by rw [V.out, HM.out, HN.out]; unfold cmp3; rw [if_pos (by omega)])
        go_wp2
        go_ret
        exact ⟨ret_i _ _ V'.out.symm, _, rfl⟩
      · have V' := Lib.hid (show cmpL xs ys = 0 by rw [V.out, HM.out, HN.out]; unfold cmp3; rw [if_neg (by omega), if_neg (by omega)])
        have e1 : ¬ n < m := by omega
        go_wp2
        go_ret
        exact ⟨ret_i _ _ V'.out.symm, _, rfl⟩
end Go.Proofs.YtdhlnagkhkcoiaaDoor
