/- Whether a number is in a list: the model; a copy by append, of any slice. -/
import Derived.Test.YtodlcjdbpibacaaArg
import Derived.Laws.AppendOwnNone
namespace Go.Proofs.Ytodlcjdbpibacaa
open Go.RowKit
set_option linter.unusedVariables false

theorem takeI_getD {xs : List Int} {j : Nat} (h : j < xs.length) : xs.take (j + 1) = xs.take j ++ [xs.getD j 0] := by
  rw [List.take_succ_eq_append_getElem h]
  simp [List.getD, List.getElem?_eq_getElem h]
theorem shas (w : World) (v : Value) (xs : List Int) (n : Int) (hv : IntsAt w v xs) :
    Calls Try.prog 32 #[v, .int .i64 n] w fun e w' => e = .returned (.bool (decide (n ∈ xs))) ∧ w = w' := by
  obtain ⟨m, hm⟩ : ∃ m, xs.length = m := ⟨_, rfl⟩
  obtain ⟨a, cap, rfl, hc⟩ : ∃ a cap, v = .slice a m cap ∧ ∀ j, j < m → ∃ g off, a = some ⟨g, off, none⟩ ∧ w.cell? ⟨g, off + j, none⟩ = some (.int .i64 (xs.getD j 0)) := by
    obtain ⟨_, ⟨rfl, a, cap, rfl⟩ | ⟨g, off, cap, rfl, hc⟩⟩ := hv
    · rw [← hm]; exact ⟨a, cap, rfl, fun j hj => by simp at hj⟩
    · rw [hm]; exact ⟨_, cap, rfl, fun j hj => ⟨g, off, rfl, hc j (by omega)⟩⟩
  have hml : m ≤ 9223372036854775807 := by rw [← hm]; exact hv.1
  have HC := Lib.hid hc
  have HM := Lib.hid hm
  clear hv hc hm
  go_enter Try.func32, Try.ntmps32
  go_wp2
  go_loop [5] (fun i => ∃ j : Nat, j ≤ m ∧ i = .int .i64 j ∧ Hid (n ∉ xs.take j)) (fun i => m - (intOf i).toNat)
  case atStart => exact ⟨0, by omega, rfl, by simp [Hid]⟩
  case round =>
    obtain ⟨j, hj, rfl, hN⟩ := hrel
    by_cases c : j < m
    · have g1 : decide (j < m) = true := by simpa using c
      obtain ⟨g, off, rfl, cj⟩ := HC.out j c
      have hj' : j < xs.length := by rw [HM.out]; exact c
      obtain ⟨x, hx⟩ : ∃ x, xs.getD j 0 = x := ⟨_, rfl⟩
      have TK := Lib.hid (takeI_getD hj')
      rw [hx] at cj TK
      have j0 : (0 : Int) ≤ (j : Int) := by omega
      have j1 : (j : Int) < (m : Int) := by omega
      have w3 := IntWalk.i64_in ((j : Int) + 1) (by omega)
      by_cases e : x = n
      · have g2 : (x == n) = true := by simpa using e
        have V : Hid (decide (n ∈ xs) = true) := by
          refine decide_eq_true ?_
          have : n ∈ xs.take (j + 1) := by rw [TK.out, e]; simp
          exact List.mem_of_mem_take this
        clear hx e
        go_wp2
        go_ret
        exact ⟨by rw [V.out]; rfl, rfl⟩
      · have g2 : (x == n) = false := by simpa using e
        have V : Hid (n ∉ xs.take (j + 1)) := by
          unfold Hid
          rw [TK.out, List.mem_append, List.mem_singleton]
          rintro (h | h)
          · exact hN.out h
          · exact e h.symm
        clear hx e
        go_wp2
        go_round
        case rel => exact ⟨j + 1, by omega, by go_num, V⟩
        case measure => simp [intOf]; omega
    · have g1 : decide (j < m) = false := by simpa using c
      have V : Hid (decide (n ∈ xs) = false) := by
        refine decide_eq_false ?_
        have := hN.out
        rwa [show j = xs.length by have := HM.out; omega, List.take_length] at this
      go_wp2
      go_ret
      exact ⟨by rw [V.out]; rfl, rfl⟩


/-- append([]int64{}, s...): a copy of whatever slice. -/
theorem sown_at (w : World) (v : Value) (xs : List Int) (hu : IntsAt w v xs) (hx : xs.length ≤ 1048576) :
    Calls Try.prog 25 #[v] w fun e w' => ∃ v', e = .returned v' ∧ Ints w' w.heap.size v' xs ∧ Below w.heap.size w w' := by
  obtain ⟨i0, hi, hz0, hz1, hz2⟩ := info_parts Try.infoInt
  have HB : Hid (Below w.heap.size w (w.alloc (.cells #[] 2))) := (Below.refl _ _).alloc (Nat.le_refl _) _
  have HO : Hid (Ints (w.alloc (.cells #[] 2)) w.heap.size (.slice (some ⟨w.heap.size, 0, none⟩) 0 0) []) := World.ownsRow_made w #[] 0 (Nat.le_refl _) (by decide) rfl
  obtain ⟨-, ⟨rfl, a, cap, rfl⟩ | ⟨g, off, cap, rfl, hc⟩⟩ := hu
  · cases a with
    | none =>
      go_enter Try.func25, Try.ntmps25
      go_wp2_with (at_builtin; refine wpList_append_own_none (by rfl) _ _ 23 (by rfl) w.heap.size 2 i0 1 Try.underlying23 hi _ 0 _ (by rfl) HO.out (by rfl) ?_)
      go_ret
      exact ⟨_, rfl, HO.out, HB.out⟩
    | some a =>
      go_enter Try.func25, Try.ntmps25
      go_wp2_with (at_builtin; refine wpList_append_own _ (by rfl) _ _ 23 (by rfl) w.heap.size 2 i0 (.int .i64 0) 1 8 Try.underlying23 hi hz0 hz1 hz2 rfl (by decide) _ 0 _ (by rfl) HO.out a 0 cap [] (by rfl) rfl (by intro j u hj; simp at hj) (by intro u hu; cases hu) (by decide) (by omega) (Nat.le_of_lt (by simp)) ?_; intro v' w' h' hg' _; have H2 := Lib.hid h'; have G2 := Lib.hid hg'; clear h' hg')
      go_ret
      refine ⟨_, rfl, ?_, HB.out.grown G2.out (by simp) (fun k hk => ?_)⟩
      · have := H2.out
        unfold Ints
        simpa using this
      · simp [Value.ownBlock] at hk; omega
  · obtain ⟨n, hn⟩ : ∃ n, xs.length = n := ⟨_, rfl⟩
    have HC : Hid (∀ j u, (xs.map (Value.int .i64))[j]? = some u → (w.alloc (.cells #[] 2)).cell? ((⟨g, off, none⟩ : Addr).add j) = some u) := by
      intro j u hj
      rw [List.getElem?_map] at hj
      have hj' : j < xs.length := by
        by_cases h : j < xs.length
        · exact h
        · rw [List.getElem?_eq_none (by omega)] at hj; cases hj
      rw [List.getElem?_eq_getElem hj'] at hj
      simp only [Option.map_some, Option.some.injEq] at hj
      subst hj
      have k := hc j hj'
      rw [show (⟨g, off, none⟩ : Addr).add j = ⟨g, off + j, none⟩ by unfold Addr.add; split <;> simp_all]
      rw [HB.out.cell (p := ⟨g, off + j, none⟩) (World.block_lt_of_cell? w _ k), k]
      simp [List.getD, List.getElem?_eq_getElem hj']
    have HX := Lib.hid hn
    rw [hn] at hx ⊢
    clear hn hc
    go_enter Try.func25, Try.ntmps25
    go_wp2_with (at_builtin; refine wpList_append_own _ (by rfl) _ _ 23 (by rfl) w.heap.size 2 i0 (.int .i64 0) 1 8 Try.underlying23 hi hz0 hz1 hz2 rfl (by decide) _ 0 _ (by rfl) HO.out ⟨g, off, none⟩ n cap (xs.map (Value.int .i64)) (by rfl) (by rw [List.length_map, HX.out]; omega) HC.out (by intro u hu; obtain ⟨x, _, rfl⟩ := List.mem_map.1 hu; rfl) (by unfold maxLen; omega) (by omega) (Nat.le_of_lt (by simp)) ?_; intro v' w' h' hg' _; have H2 := Lib.hid h'; have G2 := Lib.hid hg'; clear h' hg')
    go_ret
    refine ⟨_, rfl, ?_, HB.out.grown G2.out (by simp) (fun k hk => ?_)⟩
    · have := H2.out
      unfold Ints
      rw [HX.out]
      simpa using this
    · simp [Value.ownBlock] at hk; omega
end Go.Proofs.Ytodlcjdbpibacaa
