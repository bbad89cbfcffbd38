/- Union, meet and difference of sets: the model. -/
import Derived.Test.YtdhlnagkhkcoiaaDoorPs
import Derived.Test.YtdhlnagkhkcoiaaDoorHas
import Derived.Laws.AppendOwnNone
namespace Go.Proofs.YtdhlnagkhkcoiaaDoor
open Go.RowKit
set_option linter.unusedVariables false

theorem valid32 (xs : List Int) : validSet xs 32 = risesB 0 31 xs := by
  unfold validSet
  rw [show (decide ((0 : Int) ≤ 32) && decide ((32 : Int) ≤ 32)) = true from rfl, Bool.true_and]
  rfl
/-- append([]int64{}, s...): a copy of a slice of the call's own. -/
theorem sown (w : World) (B : Nat) (v : Value) (xs : List Int) (hu : Ints w B v xs) (hx : xs.length ≤ 1048576) :
    Calls Tryd.prog 59 #[v] w fun e w' => ∃ v', e = .returned v' ∧ Ints w' w.heap.size v' xs ∧ Below w.heap.size w w' := by
  obtain ⟨i0, hi, hz0, hz1, hz2⟩ := info_parts Tryd.infoInt
  have HB : Hid (Below w.heap.size w (w.alloc (.cells #[] 2))) := (Below.refl _ _).alloc (Nat.le_refl _) _
  have HO : Hid (Ints (w.alloc (.cells #[] 2)) w.heap.size (.slice (some ⟨w.heap.size, 0, none⟩) 0 0) []) := World.ownsRow_made w #[] 0 (Nat.le_refl _) (by decide) rfl
  have hat := hu.at
  obtain ⟨-, ⟨rfl, h0⟩ | ⟨g, cap, cur, rfl, -, hh, -⟩⟩ := hu
  · have hx0 : xs = [] := by cases xs with | nil => rfl | cons _ _ => simp at h0
    have HX := Lib.hid hx0
    clear hat h0 hx0 hx
    go_enter Tryd.func59, Tryd.ntmps59
    go_wp2_with (at_builtin; refine wpList_append_own_none (by rfl) _ _ 60 (by rfl) w.heap.size 2 i0 1 Tryd.underlying60 hi _ 0 _ (by rfl) HO.out (by rfl) ?_)
    go_ret
    exact ⟨_, rfl, by rw [HX.out]; exact HO.out, HB.out⟩
  · obtain ⟨n, hn⟩ : ∃ n, xs.length = n := ⟨_, rfl⟩
    have hg : g < w.heap.size := (Array.getElem?_eq_some_iff.1 hh).1
    have HC : Hid (∀ j u, (xs.map (Value.int .i64))[j]? = some u → (w.alloc (.cells #[] 2)).cell? ((⟨g, 0, none⟩ : Addr).add j) = some u) := by
      intro j u hj
      rw [List.getElem?_map] at hj
      have hj' : j < xs.length := by
        by_cases h : j < xs.length
        · exact h
        · rw [List.getElem?_eq_none (by omega)] at hj; cases hj
      rw [List.getElem?_eq_getElem hj'] at hj
      simp only [Option.map_some, Option.some.injEq] at hj
      subst hj
      have k : w.cell? ⟨g, 0 + j, none⟩ = some (.int .i64 (xs.getD j 0)) := by
        obtain ⟨_, ⟨rfl, -⟩ | ⟨g', off, cap', e, hc⟩⟩ := hat
        · simp at hj'
        · simp only [Value.slice.injEq, Option.some.injEq, Addr.mk.injEq] at e
          obtain ⟨⟨rfl, rfl, -⟩, -, -⟩ := e
          exact hc j hj'
      rw [show (⟨g, 0, none⟩ : Addr).add j = ⟨g, 0 + j, none⟩ by unfold Addr.add; split <;> simp_all]
      rw [HB.out.cell (p := ⟨g, 0 + j, none⟩) hg, k]
      simp [List.getD, List.getElem?_eq_getElem hj']
    have HX := Lib.hid hn
    clear hat hh
    rw [hn] at hx ⊢
    clear hn
    go_enter Tryd.func59, Tryd.ntmps59
    go_wp2_with (at_builtin; refine wpList_append_own _ (by rfl) _ _ 60 (by rfl) w.heap.size 2 i0 (.int .i64 0) 1 8 Tryd.underlying60 hi hz0 hz1 hz2 rfl (by decide) _ 0 _ (by rfl) HO.out ⟨g, 0, none⟩ n cap (xs.map (Value.int .i64)) (by rfl) (by rw [List.length_map, HX.out]; omega) HC.out (by intro u hu; obtain ⟨x, _, rfl⟩ := List.mem_map.1 hu; rfl) (by unfold maxLen; omega) (by omega) (Nat.le_of_lt (by simp)) ?_; intro v' w' h' hg' _; have H2 := Lib.hid h'; have G2 := Lib.hid hg'; clear h' hg')
    go_ret
    refine ⟨_, rfl, ?_, HB.out.grown G2.out (by simp) (fun k hk => ?_)⟩
    · have := H2.out
      unfold Ints
      rw [HX.out]
      simpa using this
    · simp [Value.ownBlock] at hk; omega

theorem two_valid {p q : Bool} (h : (p && q) = true) : p = true ∧ q = true := by revert h; cases p <;> cases q <;> simp
theorem bits_of {xs : List Int} (h : validSet xs 32 = true) : xs.length ≤ 32 ∧ (∀ j, j < xs.length → 0 ≤ xs.getD j 0 ∧ xs.getD j 0 ≤ 31) ∧ xs = fls 32 (fun n => decide ((n : Int) ∈ xs)) := by
  have hr := valid_rises h
  have e := set_fls hr
  refine ⟨?_, fun j hj => ?_, e⟩
  · rw [e]; exact fls_len _ _
  · have := hr j hj
    exact ⟨this.1, this.2.1⟩

end Go.Proofs.YtdhlnagkhkcoiaaDoor
