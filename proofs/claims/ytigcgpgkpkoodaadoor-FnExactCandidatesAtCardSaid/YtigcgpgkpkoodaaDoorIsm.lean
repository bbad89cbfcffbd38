/- Isotope: the model. -/
import Derived.Test.YtigcgpgkpkoodaaDoorIso
namespace Go.Proofs.YtigcgpgkpkoodaaDoor
open Go.RowKit
set_option linter.unusedVariables false

theorem IntsAt.look {w : World} {v : Value} {xs : List Int} {n : Nat} (h : IntsAt w v xs) (hn : xs.length = n) : ∃ a c, v = .slice a n c ∧ ∀ W, Below w.heap.size w W → ∀ i, i < n → ∃ g off, a = some ⟨g, off, none⟩ ∧ W.cell? ⟨g, off + i, none⟩ = some (.int .i64 (xs.getD i 0)) := by
  obtain ⟨a, c, e, k⟩ := part2 h
  rw [hn] at e k
  refine ⟨a, c, e, fun W hb i hi => ?_⟩
  obtain ⟨g, off, h1, h2, h3⟩ := k i hi
  exact ⟨g, off, h1, (hb.cell (p := ⟨g, off + i, none⟩) h2).trans h3⟩
theorem RowsAt.look {w : World} {v : Value} {xss : List (List Int)} {n : Nat} (h : RowsAt w v xss) (hn : xss.length = n) (hr : ∀ x, x < n → (xss.getD x []).length = n) :
    ∃ a c, v = .slice a n c ∧ ∀ W, Below w.heap.size w W → ∀ x y, x < n → y < n → ∃ g off g2 off2 c2, a = some ⟨g, off, none⟩ ∧ W.cell? ⟨g, off + x, none⟩ = some (.slice (some ⟨g2, off2, none⟩) n c2) ∧ W.cell? ⟨g2, off2 + y, none⟩ = some (.int .i64 (cellF xss x y)) := by
  obtain ⟨a, c, e, -, hc⟩ := h.cellsOf
  rw [hn] at e
  refine ⟨a, c, e, fun W hb x y hx hy => ?_⟩
  obtain ⟨g, off, u, h1, h2, h3, h4⟩ := hc x (by omega)
  obtain ⟨a2, c2, e2, _, _, h5⟩ := h4.part
  have el := hr x hx
  obtain ⟨g2, off2, h6, h7, h8⟩ := h5 y (by omega)
  subst h6
  rw [el] at e2
  exact ⟨g, off, g2, off2, c2, h1, by rw [(hb.cell (p := ⟨g, off + x, none⟩) h2).trans h3, e2], (hb.cell (p := ⟨g2, off2 + y, none⟩) h7).trans h8⟩

end Go.Proofs.YtigcgpgkpkoodaaDoor
