/- Quasigroups: the model's units and associativity. -/
import Derived.Test.YtigcgpgkpkoodaaDoorQg
import Derived.StillTailTactics
namespace Go.Proofs.YtigcgpgkpkoodaaDoor
open Go.RowKit Go.Shelf
set_option linter.unusedVariables false

theorem RowsAt.look2 {w : World} {v : Value} {xss : List (List Int)} {n : Nat} (h : RowsAt w v xss) (hn : xss.length = n) (hr : ∀ x, x < n → (xss.getD x []).length = n) (h1 : 1 ≤ n) :
    ∃ g off c, v = .slice (some ⟨g, off, none⟩) n c ∧ ∀ W, Below w.heap.size w W → ∀ x, x < n → ∃ g2 off2 c2, W.cell? ⟨g, off + x, none⟩ = some (.slice (some ⟨g2, off2, none⟩) n c2) ∧ ∀ y, y < n → W.cell? ⟨g2, off2 + y, none⟩ = some (.int .i64 (cellF xss x y)) := by
  obtain ⟨a, c, e, K⟩ := h.look hn hr
  obtain ⟨g, off, _, _, _, e1, -, -⟩ := K w (Below.refl _ _) 0 0 (by omega) (by omega)
  subst e1
  refine ⟨g, off, c, e, fun W hb x hx => ?_⟩
  obtain ⟨g', off', g2, off2, c2, e2, m1, m2⟩ := K W hb x 0 hx (by omega)
  simp only [Option.some.injEq, Addr.mk.injEq] at e2
  obtain ⟨rfl, rfl, -⟩ := e2
  refine ⟨g2, off2, c2, m1, fun y hy => ?_⟩
  obtain ⟨g'', off'', g3, off3, c3, e3, m3, m4⟩ := K W hb x y hx hy
  simp only [Option.some.injEq, Addr.mk.injEq] at e3
  obtain ⟨rfl, rfl, -⟩ := e3
  rw [m1] at m3
  simp only [Option.some.injEq, Value.slice.injEq, Addr.mk.injEq] at m3
  obtain ⟨⟨rfl, rfl, -⟩, -, rfl⟩ := m3
  exact m4

end Go.Proofs.YtigcgpgkpkoodaaDoor
