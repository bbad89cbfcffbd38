/- Slices that came in, and their copies. -/
import Derived.Test.YtodlcjdbpibacaaSl
namespace Go.Proofs.Ytodlcjdbpibacaa
open Go.RowKit
set_option linter.unusedVariables false

theorem IsRow.at {w : World} {a : Option Addr} {len cap : Nat} {zs : List Int} (h : IsRow .i64 w a len cap zs) : IntsAt w (.slice a len cap) (zs.take len) ∧ (zs.take len).length = len := by
  rcases h with ⟨rfl, rfl, rfl, rfl⟩ | ⟨⟨b, off, spot⟩, rfl, h1, h2, h3, h4, h5⟩
  · exact ⟨⟨by simp, .inl ⟨rfl, none, 0, rfl⟩⟩, rfl⟩
  · have hl : (zs.take len).length = len := by rw [List.length_take]; omega
    refine ⟨⟨by unfold maxLen at h2; omega, ?_⟩, hl⟩
    by_cases h0 : len = 0
    · subst h0; exact .inl ⟨by simp, _, _, rfl⟩
    · have hc := h4 0 (by omega)
      have hspot : spot = none := by simpa [Addr.add] using World.cell?_spot hc
      subst hspot
      refine .inr ⟨b, off, cap, by rw [hl], fun j hj => ?_⟩
      have := h4 j (by omega)
      rw [show (⟨b, off, none⟩ : Addr).add j = ⟨b, off + j, none⟩ by unfold Addr.add; split <;> simp_all] at this
      rw [this]
      congr 2
      simp [List.getD, List.getElem?_take_of_lt (show j < len by omega)]

theorem IntsAt.below {w w' : World} {B : Nat} {v : Value} {xs : List Int} (h : IntsAt w v xs) (hb : Below B w w') (hs : w.heap.size ≤ B) : IntsAt w' v xs := by
  obtain ⟨h1, h2 | ⟨g, off, cap, rfl, hc⟩⟩ := h
  · exact ⟨h1, .inl h2⟩
  · refine ⟨h1, .inr ⟨g, off, cap, rfl, fun j hj => ?_⟩⟩
    have k := hc j hj
    have := World.block_lt_of_cell? w _ k
    exact (hb.cell (p := ⟨g, off + j, none⟩) (by exact Nat.lt_of_lt_of_le this hs)).trans k

theorem copy_set (xs : List Int) (j n : Nat) (h : j < xs.length) (hn : xs.length = n) : (xs.take j ++ List.replicate (n - j) (0 : Int)).set j (xs.getD j 0) = xs.take (j + 1) ++ List.replicate (n - (j + 1)) 0 := by
  have e : (xs.take j).length = j := by rw [List.length_take]; omega
  rw [List.set_append_right _ _ (by omega), e, Nat.sub_self, show n - j = (n - (j + 1)) + 1 by omega, List.replicate_succ, List.set_cons_zero, List.take_succ_eq_append_getElem h, List.append_assoc]
  simp [List.getD, List.getElem?_eq_getElem h]

/-- A copy is a slice of the call's own that reads the same. -/
theorem copy_any (w : World) (v : Value) (xs : List Int) (hv : IntsAt w v xs) (hx : xs.length ≤ 1048576) :
    Calls Try.prog 7 #[v] w fun e w' => ∃ v', e = .returned v' ∧ Ints w' w.heap.size v' xs ∧ Below w.heap.size w w' := by
  obtain ⟨n, hn⟩ : ∃ n, xs.length = n := ⟨_, rfl⟩
  obtain ⟨a, cap, rfl⟩ : ∃ a cap, v = .slice a n cap := by
    rcases hv.2 with ⟨rfl, a, cap, rfl⟩ | ⟨g, off, cap, rfl, _⟩
    · exact ⟨a, cap, by rw [← hn]; rfl⟩
    · exact ⟨_, cap, by rw [hn]⟩
  have hcell : ∀ j, j < n → ∃ g off, a = some ⟨g, off, none⟩ ∧ w.cell? ⟨g, off + j, none⟩ = some (.int .i64 (xs.getD j 0)) := by
    intro j hj
    rcases hv.2 with ⟨rfl, _⟩ | ⟨g, off, cap', e, hc⟩
    · simp at hn; omega
    · simp only [Value.slice.injEq] at e
      exact ⟨g, off, e.1, hc j (by omega)⟩
  have HC := Lib.hid hcell
  have HN := Lib.hid hn
  rw [hn] at hx
  clear hv hcell
  have hmk := fun W : World => run_make_row' (P := Try.prog) 23 2 (.int .i64 0) 8 Try.underlying23 Try.infoInt rfl .i64 .i64 n (by omega) (by omega) W
  have hrow0 : Hid ((w.alloc (.cells (madeCells #[.int .i64 0] n) 2)).ownsRow w.heap.size 2 1 (.slice (some ⟨w.heap.size, 0, none⟩) n n) n ((xs.take 0 ++ List.replicate (n - 0) (0 : Int)).map (Value.int .i64))) := by
    have := World.ownsRow_lit (base := w.heap.size) (e := 2) (size := 1) w (madeCells #[.int .i64 0] n) n (Nat.le_refl _) (by unfold maxLen; omega) (by simp [size_madeCells])
    rw [toList_madeCells_one] at this
    unfold Hid
    simpa using this
  clear hn
  go_enter Try.func7, Try.ntmps7
  go_wp2
  go_loopw [4] (fun i wr => ∃ j : Nat, j ≤ n ∧ i = .int .i64 j ∧ Hid (wr.ownsRow w.heap.size 2 1 (.slice (some ⟨w.heap.size, 0, none⟩) n n) n ((xs.take j ++ List.replicate (n - j) (0 : Int)).map (Value.int .i64))) ∧ Hid (Below w.heap.size w wr)) (fun i _ => n - (intOf i).toNat)
  case atStart => exact ⟨0, Nat.zero_le _, rfl, hrow0, (Below.refl _ _).alloc (Nat.le_refl _) _⟩
  case round =>
    obtain ⟨j, hj, rfl, ho, hb⟩ := hrel
    by_cases hlt : j < n
    · obtain ⟨g, off, ha, hc0⟩ := HC.out j hlt
      obtain ⟨x, hx'⟩ : ∃ x, xs.getD j 0 = x := ⟨_, rfl⟩
      have i1 : (0 : Int) ≤ (j : Int) := by omega
      have i2 : (j : Int) < (n : Int) := by omega
      have hg : g < w.heap.size := World.block_lt_of_cell? w _ hc0
      have hc : wr.cell? ⟨g, off + j, none⟩ = some (.int .i64 x) := by rw [← hx']; exact (hb.out.cell (p := ⟨g, off + j, none⟩) hg).trans hc0
      obtain ⟨old, hold⟩ : ∃ old, wr.cell? ⟨w.heap.size, j, none⟩ = some old := by
        rw [ho.out.cellAt j (by omega), List.getElem?_eq_getElem (by have := ho.out.1; omega)]; exact ⟨_, rfl⟩
      have hf : wr.frozen? ⟨w.heap.size, j, none⟩ = false := ho.out.frozenAt j
      have S1 : Hid ((wr.setCell ⟨w.heap.size, j, none⟩ (.int .i64 x)).ownsRow w.heap.size 2 1 (.slice (some ⟨w.heap.size, 0, none⟩) n n) n ((xs.take (j + 1) ++ List.replicate (n - (j + 1)) (0 : Int)).map (Value.int .i64))) := by
        have := (ho.out.stored j (.int .i64 x)).1
        rw [← List.map_set, ← hx', copy_set xs j n (by rw [HN.out]; exact hlt) HN.out, hx'] at this
        exact this
      have S2 : Hid (Below w.heap.size w (wr.setCell ⟨w.heap.size, j, none⟩ (.int .i64 x))) := hb.out.setCell (Nat.le_refl _) _
      subst ha
      clear hx' hg hc0
      go_wp2
      go_roundw
      case rel => exact ⟨j + 1, by omega, by go_num, S1, S2⟩
      case measure => simp [intOf]; omega
    · obtain rfl : j = n := by omega
      have V : Hid (Ints wr w.heap.size (.slice (some ⟨w.heap.size, 0, none⟩) j j) xs) := by
        have := ho.out
        rw [Nat.sub_self, List.replicate_zero, List.append_nil, List.take_of_length_le (by rw [HN.out]; exact Nat.le_refl _)] at this
        unfold Hid Ints
        rw [HN.out]
        exact this
      go_wp2
      go_ret
      exact ⟨_, rfl, V.out, hb.out⟩
end Go.Proofs.Ytodlcjdbpibacaa
