/- IsSquareMod of both packages. -/
import Derived.Test.YtocjdjgfadaljaaSq
namespace Go.Proofs.Ytocjdjgfadaljaa
open Go.RowKit
set_option linter.unusedVariables false

/-- An index that is found is not negative. -/
def IdxOk (i a : Int) (xs : List Int) : Prop := decide (0 ≤ i) = decide (a ∈ xs)

/-- slices.Index: the first index of a number, or -1. -/
theorem index_any (w : World) (v : Value) (xs : List Int) (a : Int) (hv : IntsAt w v xs) :
    Calls Try.prog 58 #[v, .int .i64 a] w fun e w' => ∃ i : Int, e = .returned (.int .i64 i) ∧ IdxOk i a xs ∧ w = w' := by
  obtain ⟨hl, hv⟩ := hv
  rcases hv with ⟨rfl, b, cap, rfl⟩ | ⟨g, off, cap, rfl, hc⟩
  · go_enter Try.func58, Try.ntmps58
    go_wp2
    refine wp_loop_rounds 1 ?_
    rw [rounds_succ]
    go_wp2
    go_ret
    exact ⟨_, rfl, by simp [IdxOk], rfl⟩
  · have HC := Lib.hid hc
    clear hc
    obtain ⟨n, hn⟩ : ∃ n, xs.length = n := ⟨_, rfl⟩
    have HN := Lib.hid hn
    rw [hn] at hl ⊢
    clear hn
    go_enter Try.func58, Try.ntmps58
    go_wp2
    go_loop [8] (fun i => ∃ j : Nat, j ≤ n ∧ i = .int .i64 j ∧ Hid (∀ k, k < j → xs.getD k 0 ≠ a)) (fun i => n - (intOf i).toNat)
    case atStart => exact ⟨0, Nat.zero_le _, rfl, fun k hk => by omega⟩
    case round =>
      obtain ⟨j, hj, rfl, hr⟩ := hrel
      by_cases hlt : j < n
      · obtain ⟨x, hx⟩ : ∃ x, xs.getD j 0 = x := ⟨_, rfl⟩
        have hx' : xs[j]'(by rw [HN.out]; exact hlt) = x := by rw [← hx, List.getD_eq_getElem?_getD, List.getElem?_eq_getElem (by rw [HN.out]; exact hlt)]; rfl
        have g1 := HC.out j (by rw [HN.out]; exact hlt)
        rw [hx] at g1
        have i1 : (0 : Int) ≤ (j : Int) := by omega
        have i2 : (j : Int) < (n : Int) := by omega
        by_cases ht : a = x
        · have hT : (a == x) = true := by simpa using ht
          have V := Lib.hid (show decide ((0 : Int) ≤ j) = decide (a ∈ xs) by rw [decide_eq_true i1, decide_eq_true]; rw [ht, ← hx']; exact List.getElem_mem _)
          clear ht hx hx'
          go_wp2
          go_ret
          exact ⟨_, rfl, V.out, rfl⟩
        · have hT : (a == x) = false := by simpa using ht
          have V := Lib.hid (show ∀ k, k < j + 1 → xs.getD k 0 ≠ a from fun k hk => by
            by_cases e : k = j
            · rw [e, hx]; exact fun h => ht h.symm
            · exact hr.out k (by omega))
          clear ht hx hx'
          go_wp2
          go_round
          case rel => exact ⟨j + 1, by omega, by go_num, V⟩
          case measure => simp [intOf]; omega
      · have V := Lib.hid (show decide ((0 : Int) ≤ -1) = decide (a ∈ xs) by
          rw [decide_eq_false (show ¬ (0 : Int) ≤ -1 by omega), decide_eq_false]
          intro hm
          obtain ⟨k, hk, e⟩ := List.getElem_of_mem hm
          refine hr.out k (by have := HN.out; omega) ?_
          rw [List.getD_eq_getElem?_getD, List.getElem?_eq_getElem hk]; exact e)
        go_wp2
        go_ret
        exact ⟨_, rfl, V.out, rfl⟩

theorem contains_any (w : World) (v : Value) (xs : List Int) (a : Int) (hv : IntsAt w v xs) :
    Calls Try.prog 42 #[v, .int .i64 a] w fun e w' => e = .returned (.bool (decide (a ∈ xs))) ∧ w = w' := by
  have HV := Lib.hid hv
  clear hv
  go_enter Try.func42, Try.ntmps42
  go_wp2_with fail
  refine (index_any _ v xs a HV.out).mono ?_
  rintro e w' ⟨i, rfl, hi, rfl⟩
  have HI := Lib.hid hi
  clear hi
  go_wp2
  go_ret
  exact ⟨ret_b _ _ HI.out, rfl⟩

/-- What IsSquareMod answers. -/
def isSq (a m : Int) : Bool := decide (a ∈ sqAll m)

theorem mem_sqAll (a m : Int) : a ∈ sqAll m ↔ IsRes a m ∧ a ≠ 0 ∧ seen m m.toNat a.toNat = true := by
  unfold sqAll
  by_cases h : 1 ≤ m ∧ m ≤ 1000
  · rw [if_pos h]
    simp only [sqs, List.mem_map, List.mem_filter, List.mem_range, Bool.and_eq_true, decide_eq_true_eq]
    constructor
    · rintro ⟨b, ⟨h1, h2, h3⟩, rfl⟩
      exact ⟨⟨h.1, h.2, by omega, by omega⟩, by omega, by simpa using h3⟩
    · rintro ⟨⟨_, _, h3, h4⟩, h5, h6⟩
      exact ⟨a.toNat, ⟨by omega, by omega, h6⟩, by omega⟩
  · rw [if_neg h]
    simp
    intro hr
    exact absurd ⟨hr.1, hr.2.1⟩ h

theorem isSq_of {a m : Int} {b : Bool} (h : (IsRes a m ∧ a ≠ 0 ∧ seen m m.toNat a.toNat = true) ↔ b = true) : isSq a m = b := by
  unfold isSq
  cases b
  · exact decide_eq_false (fun k => by have := h.1 ((mem_sqAll a m).1 k); simp at this)
  · exact decide_eq_true ((mem_sqAll a m).2 (h.2 rfl))

theorem isq (a m : Int) (w : World) :
    Calls Try.prog 15 #[.int .i64 a, .int .i64 m] w fun e w' => e = .returned (.bool (isSq a m)) ∧ Below w.heap.size w w' := by
  have V := Lib.hid (show isSq a m = decide (a ∈ sqAll m) from rfl)
  go_enter Try.func15, Try.ntmps15
  go_wp2_with fail
  refine (isqAll m _).mono ?_
  rintro e w1 ⟨v, rfl, i1, b1⟩
  have I1 := Lib.hid i1
  have B1 := Lib.hid b1
  clear i1 b1
  go_wp2_with fail
  refine (contains_any _ v _ a I1.out.at).mono ?_
  rintro e w2 ⟨rfl, rfl⟩
  go_wp2
  go_ret
  exact ⟨ret_b _ _ V.out.symm, B1.out⟩

end Go.Proofs.Ytocjdjgfadaljaa
