/- Slices that came in, and their copies. -/
import Derived.Test.YtanfodbpgpfjmaaSl
namespace Go.Proofs.Ytanfodbpgpfjmaa
open Go.RowKit
set_option linter.unusedVariables false

theorem IsRow.at {w : World} {a : Option Addr} {len cap : Nat} {zs : List Int} (h : IsRow .i64 w a len cap zs) : IntsAt w (.slice a len cap) (zs.take len) ∧ (zs.take len).length = len := by
  rcases h with ⟨rfl, rfl, rfl, rfl⟩ | ⟨⟨b, off, spot⟩, rfl, h1, h2, h3, h4, h5⟩
  · exact ⟨⟨by simp, .inl ⟨rfl, none, 0, rfl⟩⟩, rfl⟩
  · have hl : (zs.take len).length = len := by rw [List.length_take]; omega
    refine ⟨⟨by unfold maxLen at h2; omega, ?_⟩, hl⟩
    by_cases h0 : len = 0
    · subst h0; exact .inl ⟨by simp, _, _, rfl⟩
    · have hc := h4 0 (by omega)
      have hspot : spot = none := by simpa [Addr.add] using World.cell?_spot hc
      subst hspot
      refine .inr ⟨b, off, cap, by rw [hl], fun j hj => ?_⟩
      have := h4 j (by omega)
      rw [show (⟨b, off, none⟩ : Addr).add j = ⟨b, off + j, none⟩ by unfold Addr.add; split <;> simp_all] at this
      rw [this]
      congr 2
      simp [List.getD, List.getElem?_take_of_lt (show j < len by omega)]

theorem IntsAt.below {w w' : World} {B : Nat} {v : Value} {xs : List Int} (h : IntsAt w v xs) (hb : Below B w w') (hs : w.heap.size ≤ B) : IntsAt w' v xs := by
  obtain ⟨h1, h2 | ⟨g, off, cap, rfl, hc⟩⟩ := h
  · exact ⟨h1, .inl h2⟩
  · refine ⟨h1, .inr ⟨g, off, cap, rfl, fun j hj => ?_⟩⟩
    have k := hc j hj
    have := World.block_lt_of_cell? w _ k
    exact (hb.cell (p := ⟨g, off + j, none⟩) (by exact Nat.lt_of_lt_of_le this hs)).trans k

theorem copy_set (xs : List Int) (j n : Nat) (h : j < xs.length) (hn : xs.length = n) : (xs.take j ++ List.replicate (n - j) (0 : Int)).set j (xs.getD j 0) = xs.take (j + 1) ++ List.replicate (n - (j + 1)) 0 := by
  have e : (xs.take j).length = j := by rw [List.length_take]; omega
  rw [List.set_append_right _ _ (by omega), e, Nat.sub_self, show n - j = (n - (j + 1)) + 1 by omega, List.replicate_succ, List.set_cons_zero, List.take_succ_eq_append_getElem h, List.append_assoc]
  simp [List.getD, List.getElem?_eq_getElem h]

end Go.Proofs.Ytanfodbpgpfjmaa
