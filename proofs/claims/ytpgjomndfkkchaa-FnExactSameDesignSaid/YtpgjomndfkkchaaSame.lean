/- Whether two slices of integers are the same, by both packages. -/
import Derived.Test.YtpgjomndfkkchaaArg
namespace Go.Proofs.Ytpgjomndfkkchaa
open Go.RowKit
set_option linter.unusedVariables false

theorem at_shape {w : World} {v : Value} {xs : List Int} (h : IntsAt w v xs) : ∃ a cap, v = .slice a xs.length cap ∧ xs.length ≤ 9223372036854775807 ∧ ∀ j, j < xs.length → ∃ g off, a = some ⟨g, off, none⟩ ∧ w.cell? ⟨g, off + j, none⟩ = some (.int .i64 (xs.getD j 0)) := by
  obtain ⟨hl, ⟨rfl, a, cap, rfl⟩ | ⟨g, off, cap, rfl, hc⟩⟩ := h
  · exact ⟨a, cap, rfl, hl, fun j hj => by simp at hj⟩
  · exact ⟨_, cap, rfl, hl, fun j hj => ⟨g, off, rfl, hc j hj⟩⟩

set_option maxHeartbeats 1000000 in
theorem ssame (w : World) (u v : Value) (xs ys : List Int) (hu : IntsAt w u xs) (hv : IntsAt w v ys) :
    Calls Try.prog 40 #[u, v] w fun e w' => e = .returned (.bool (decide (xs = ys))) ∧ ∃ k, w' = w.drewN k := by
  obtain ⟨a, cap, rfl, hl, hc⟩ := at_shape hu
  obtain ⟨a', cap', rfl, hl', hc'⟩ := at_shape hv
  have HC := Lib.hid hc
  have HC' := Lib.hid hc'
  obtain ⟨m, hm⟩ : ∃ m, xs.length = m := ⟨_, rfl⟩
  obtain ⟨n, hn⟩ : ∃ n, ys.length = n := ⟨_, rfl⟩
  have HM := Lib.hid hm
  have HN := Lib.hid hn
  rw [hm] at hl ⊢
  rw [hn] at hl' ⊢
  by_cases e : m = n
  · subst e
    clear hm hn hc hc' hu hv
    have e0 : ((m : Int) != (m : Int)) = false := by simp
    go_enter Try.func40, Try.ntmps40
    go_wp2
    go_loopw [5] (fun i wr => ∃ j : Nat, j ≤ m ∧ i = .int .i64 j ∧ Hid (∀ t, t < j → xs.getD t 0 = ys.getD t 0) ∧ ∃ d, wr = w.drewN d) (fun i _ => m - (intOf i).toNat)
    case atStart => exact ⟨0, Nat.zero_le _, rfl, fun t h => by omega, 0, rfl⟩
    case round =>
      obtain ⟨j, hj, rfl, hr, d, rfl⟩ := hrel
      by_cases hlt : j < m
      · obtain ⟨x, hx⟩ : ∃ x, xs.getD j 0 = x := ⟨_, rfl⟩
        obtain ⟨y, hy⟩ : ∃ y, ys.getD j 0 = y := ⟨_, rfl⟩
        obtain ⟨g, off, ha, g1⟩ := HC.out j (by rw [HM.out]; exact hlt)
        obtain ⟨g', off', ha', g1'⟩ := HC'.out j (by rw [HN.out]; exact hlt)
        rw [hx] at g1
        rw [hy] at g1'
        have HX := Lib.hid hx
        have HY := Lib.hid hy
        subst ha ha'
        have i1 : (0 : Int) ≤ (j : Int) := by omega
        have i2 : (j : Int) < (m : Int) := by omega
        clear hx hy
        by_cases h1 : x = y
        · have t1 : (x != y) = false := by simp [h1]
          have R : Hid (∀ t, t < j + 1 → xs.getD t 0 = ys.getD t 0) := fun t ht => by
            by_cases e : t = j
            · rw [e, HX.out, HY.out, h1]
            · exact hr.out t (by omega)
          clear h1
          go_wp2
          go_quiet (fail)
          go_wp2
          go_roundw
          case rel => exact ⟨j + 1, by omega, by go_num, R, _, rfl⟩
          case measure => simp [intOf]; omega
        · have t1 : (x != y) = true := by simp [h1]
          have V : Hid (decide (xs = ys) = false) := decide_eq_false (fun e => h1 (by rw [← HX.out, ← HY.out, e]))
          clear h1
          go_wp2
          go_quiet (fail)
          go_wp2
          go_ret
          exact ⟨ret_b _ _ V.out.symm, _, World.drewN_drewN _ _ _⟩
      · have V : Hid (decide (xs = ys) = true) := decide_eq_true (List.ext_getElem (by rw [HM.out, HN.out]) (fun t h1 h2 => by
          have := hr.out t (by have := HM.out; omega)
          rw [List.getD_eq_getElem?_getD, List.getD_eq_getElem?_getD, List.getElem?_eq_getElem h1, List.getElem?_eq_getElem h2] at this
          exact this))
        go_wp2
        go_ret
        exact ⟨ret_b _ _ V.out.symm, _, rfl⟩
  · have V : Hid (decide (xs = ys) = false) := decide_eq_false (fun q => e (by rw [← hm, ← hn, q]))
    have e0 : ((m : Int) != (n : Int)) = true := by simp; omega
    clear hm hn hc hc' hu hv e
    go_enter Try.func40, Try.ntmps40
    go_wp2
    go_ret
    exact ⟨ret_b _ _ V.out.symm, 0, rfl⟩

set_option maxHeartbeats 1000000 in
theorem iequal (w : World) (u v : Value) (xs ys : List Int) (hu : IntsAt w u xs) (hv : IntsAt w v ys) :
    Calls Try.prog 26 #[u, v] w fun e w' => e = .returned (.bool (decide (xs = ys))) ∧ ∃ k, w' = w.drewN k := by
  obtain ⟨a, cap, rfl, hl, hc⟩ := at_shape hu
  obtain ⟨a', cap', rfl, hl', hc'⟩ := at_shape hv
  have HC := Lib.hid hc
  have HC' := Lib.hid hc'
  obtain ⟨m, hm⟩ : ∃ m, xs.length = m := ⟨_, rfl⟩
  obtain ⟨n, hn⟩ : ∃ n, ys.length = n := ⟨_, rfl⟩
  have HM := Lib.hid hm
  have HN := Lib.hid hn
  rw [hm] at hl ⊢
  rw [hn] at hl' ⊢
  by_cases e : m = n
  · subst e
    clear hm hn hc hc' hu hv
    have e0 : ((m : Int) != (m : Int)) = false := by simp
    go_enter Try.func26, Try.ntmps26
    go_wp2
    go_loopw [13] (fun i wr => ∃ j : Nat, j ≤ m ∧ i = .int .i64 j ∧ Hid (∀ t, t < j → xs.getD t 0 = ys.getD t 0) ∧ ∃ d, wr = w.drewN d) (fun i _ => m - (intOf i).toNat)
    case atStart => exact ⟨0, Nat.zero_le _, rfl, fun t h => by omega, 0, rfl⟩
    case round =>
      obtain ⟨j, hj, rfl, hr, d, rfl⟩ := hrel
      by_cases hlt : j < m
      · obtain ⟨x, hx⟩ : ∃ x, xs.getD j 0 = x := ⟨_, rfl⟩
        obtain ⟨y, hy⟩ : ∃ y, ys.getD j 0 = y := ⟨_, rfl⟩
        obtain ⟨g, off, ha, g1⟩ := HC.out j (by rw [HM.out]; exact hlt)
        obtain ⟨g', off', ha', g1'⟩ := HC'.out j (by rw [HN.out]; exact hlt)
        rw [hx] at g1
        rw [hy] at g1'
        have HX := Lib.hid hx
        have HY := Lib.hid hy
        subst ha ha'
        have i1 : (0 : Int) ≤ (j : Int) := by omega
        have i2 : (j : Int) < (m : Int) := by omega
        clear hx hy
        by_cases h1 : x = y
        · have t1 : (x != y) = false := by simp [h1]
          have R : Hid (∀ t, t < j + 1 → xs.getD t 0 = ys.getD t 0) := fun t ht => by
            by_cases e : t = j
            · rw [e, HX.out, HY.out, h1]
            · exact hr.out t (by omega)
          clear h1
          go_wp2
          go_quiet (fail)
          go_wp2
          go_roundw
          case rel => exact ⟨j + 1, by omega, by go_num, R, _, rfl⟩
          case measure => simp [intOf]; omega
        · have t1 : (x != y) = true := by simp [h1]
          have V : Hid (decide (xs = ys) = false) := decide_eq_false (fun e => h1 (by rw [← HX.out, ← HY.out, e]))
          clear h1
          go_wp2
          go_quiet (fail)
          go_wp2
          go_ret
          exact ⟨ret_b _ _ V.out.symm, _, World.drewN_drewN _ _ _⟩
      · have V : Hid (decide (xs = ys) = true) := decide_eq_true (List.ext_getElem (by rw [HM.out, HN.out]) (fun t h1 h2 => by
          have := hr.out t (by have := HM.out; omega)
          rw [List.getD_eq_getElem?_getD, List.getD_eq_getElem?_getD, List.getElem?_eq_getElem h1, List.getElem?_eq_getElem h2] at this
          exact this))
        go_wp2
        go_ret
        exact ⟨ret_b _ _ V.out.symm, _, rfl⟩
  · have V : Hid (decide (xs = ys) = false) := decide_eq_false (fun q => e (by rw [← hm, ← hn, q]))
    have e0 : ((m : Int) != (n : Int)) = true := by simp; omega
    clear hm hn hc hc' hu hv e
    go_enter Try.func26, Try.ntmps26
    go_wp2
    go_ret
    exact ⟨ret_b _ _ V.out.symm, 0, rfl⟩
end Go.Proofs.Ytpgjomndfkkchaa
