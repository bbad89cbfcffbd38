/- Slices of slices of integers that came in. -/
import Derived.Test.YtodlcjdbpibacaaRowA
import Derived.Deep.Matrix
import Derived.OpenShut
namespace Go.Proofs.Ytodlcjdbpibacaa
open Go.RowKit Go.Deep
set_option linter.unusedVariables false

theorem add_none (b off i : Nat) : (⟨b, off, none⟩ : Addr).add i = ⟨b, off + i, none⟩ := by unfold Addr.add; split <;> simp_all
theorem row_in {w : World} {A : Option Addr} {L C : Nat} {Z : List Int} (hL : L ≤ C) (hC : C ≤ maxLen) (hZ : Z.length = C) (hn : A = none → C = 0) (hc : ∀ a', A = some a' → ∀ c, c < C → w.cell? (a'.add c) = some (.int .i64 (Z.getD c 0))) :
    IntsC w (.slice A L C) (Z.take L) := by
  have hl : (Z.take L).length = L := by rw [List.length_take]; omega
  refine ⟨⟨by rw [hl]; unfold maxLen at hC; omega, ?_⟩, hL⟩
  by_cases h0 : L = 0
  · subst h0; exact .inl ⟨by simp, A, C, rfl⟩
  · cases A with
    | none => exact absurd (hn rfl) (by omega)
    | some a' =>
      obtain ⟨b, off, spot⟩ := a'
      have c0 := hc _ rfl 0 (by omega)
      have hspot : spot = none := by simpa [Addr.add] using World.cell?_spot c0
      subst hspot
      refine .inr ⟨b, off, C, by rw [hl], fun j hj => ?_⟩
      rw [hl] at hj
      have := hc _ rfl j (by omega)
      rw [add_none] at this
      rw [this]
      simp [List.getD, hj]
theorem rows_open {H : Type} {enc : TypeId × Value → H} {W : World} {base : Nat} {held : Bool} {fuel : Nat} {v : Value} {x : DataW H × List MemPlace} (hv : ∃ a l c, v = .slice a l c)
    (h : DataW.trod enc Try.prog W base (fun _ => true) held fuel 22 v.cells.toList = some x) : ∃ xss, RowsAt W v xss ∧ ∀ r ∈ xss, ∀ z ∈ r, I64 z := by
  obtain ⟨a0, l0, c0, rfl⟩ := hv
  rcases open_int_rows Try.underlying22 Try.underlying23 Try.underlying2 (by kernel_rfl) (by kernel_rfl) h with ⟨hcs, _⟩ | ⟨a, len, cap, A, L, C, Z, hcs, _, hl, hm, _, hr⟩
  · simp [Value.cells] at hcs
    obtain ⟨rfl, rfl, rfl⟩ := hcs
    exact ⟨[], RowsAt.nil _ _ _, fun r hr => by cases hr⟩
  · simp [Value.cells] at hcs
    obtain ⟨rfl, rfl, rfl⟩ := hcs
    obtain ⟨b, off, spot⟩ := a
    have ln : ((List.range l0).map fun r => (Z r).take (L r)).length = l0 := by simp
    refine ⟨(List.range l0).map fun r => (Z r).take (L r), ⟨by rw [ln]; unfold maxLen at hm; omega, _, _, by rw [ln], by rw [ln]; exact hl, fun j hj => ?_⟩, fun r hr' z hz => ?_⟩
    · rw [ln] at hj
      obtain ⟨h1, h2, h3, h4, h5, h6, h7⟩ := hr j (by omega)
      have hspot : spot = none := by
        have := World.cell?_spot (hr 0 (by omega)).1
        simpa [Addr.add] using this
      subst hspot
      rw [add_none] at h1
      refine ⟨b, off, _, rfl, h1, ?_⟩
      have e : ((List.range l0).map fun r => (Z r).take (L r)).getD j [] = (Z j).take (L j) := by simp [List.getD, hj]
      rw [e]
      exact row_in h2 h3 h4 h6 (fun a' ha c hc => (h7 a' ha).2 c hc)
    · obtain ⟨r0, h0, rfl⟩ := List.mem_map.1 hr'
      have := List.mem_range.1 h0
      obtain ⟨h1, h2, h3, h4, h5, h6, h7⟩ := hr r0 (by omega)
      exact I64.of_wf (h5 z (List.mem_of_mem_take hz))
end Go.Proofs.Ytodlcjdbpibacaa
