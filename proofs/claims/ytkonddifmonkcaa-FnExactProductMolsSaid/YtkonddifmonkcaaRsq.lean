/- Slices of slices of slices of integers that came in. -/
import Derived.Test.YtkonddifmonkcaaRss
namespace Go.Proofs.Ytkonddifmonkcaa
open Go.RowKit Go.Deep
set_option linter.unusedVariables false

theorem rowss_open {H : Type} {enc : TypeId × Value → H} {W : World} {base : Nat} {held : Bool} {fuel : Nat} {v : Value} {x : DataW H × List MemPlace} (hv : ∃ a l c, v = .slice a l c)
    (h : DataW.trod enc Try.prog W base (fun _ => true) held fuel 26 v.cells.toList = some x) : ∃ q, QAt W v q ∧ ∀ xs ∈ q, ∀ r ∈ xs, ∀ z ∈ r, I64 z := by
  obtain ⟨a0, l0, c0, rfl⟩ := hv
  rcases open_slice1 Try.underlying26 (by kernel_rfl) h with ⟨hcs, _⟩ | ⟨a, len, cap, m, n, V, D, Pl, hcs, hb, hl, hm, hmm, _, hx⟩
  · simp [Value.cells] at hcs
    obtain ⟨rfl, rfl, rfl⟩ := hcs
    exact ⟨[], QAt.nil _ _ _, fun r hr => by cases hr⟩
  · simp [Value.cells] at hcs
    obtain ⟨rfl, rfl, rfl⟩ := hcs
    simp only [if_true] at hmm
    have hmm' := hmm.symm
    subst hmm'
    have each : ∀ r, r < c0 → ∃ y : List (List Int), RowsAt W (V r) y ∧ ∀ s ∈ y, ∀ z ∈ s, I64 z := by
      intro r hr
      have t := (hx r hr).2
      have sh : ∃ a l c, V r = .slice a l c := by
        rcases open_int_rows Try.underlying22 Try.underlying35 Try.underlying2 (by kernel_rfl) (by kernel_rfl) t with ⟨q, _⟩ | ⟨a, len, cap, A, L, C, Z, q, _⟩
        · exact ⟨_, _, _, by simpa using q⟩
        · exact ⟨_, _, _, by simpa using q⟩
      have ec : (V r).cells.toList = [V r] := by obtain ⟨a, l, c, e⟩ := sh; rw [e]; rfl
      exact rows_open sh (by rw [ec]; exact t)
    obtain ⟨y, hy⟩ := choose_lt each
    obtain ⟨b, off, spot⟩ := a
    have ln : ((List.range l0).map y).length = l0 := by simp
    refine ⟨(List.range l0).map y, ⟨by rw [ln]; unfold maxLen at hm; omega, _, _, by rw [ln], by rw [ln]; exact hl, fun j hj => ?_⟩, fun xs hxs => ?_⟩
    · rw [ln] at hj
      have hspot : spot = none := by
        have := World.cell?_spot (hx 0 (by omega)).1
        simpa [Addr.add] using this
      subst hspot
      have h1 := (hx j (by omega)).1
      rw [add_none] at h1
      have e : ((List.range l0).map y).getD j [] = y j := by simp [List.getD, hj]
      rw [e]
      exact ⟨b, off, _, rfl, h1, (hy j (by omega)).1⟩
    · obtain ⟨r0, h0, rfl⟩ := List.mem_map.1 hxs
      exact (hy r0 (by have := List.mem_range.1 h0; omega)).2
end Go.Proofs.Ytkonddifmonkcaa
