/- Slices of slices of integers. -/
import Derived.Test.YtodlcjdbpibacaaLim
import Derived.Deep.Matrix
namespace Go.Proofs.Ytodlcjdbpibacaa
open Go.RowKit
set_option linter.unusedVariables false

/-- v is a slice of slices that reads as xss. -/
def RowsAt (w : World) (v : Value) (xss : List (List Int)) : Prop :=
  xss.length ≤ 9223372036854775807 ∧ ∃ a cap, v = .slice a xss.length cap ∧ xss.length ≤ cap ∧ ∀ j, j < xss.length → ∃ g off u, a = some ⟨g, off, none⟩ ∧ w.cell? ⟨g, off + j, none⟩ = some u ∧ IntsC w u (xss.getD j [])
theorem RowsAt.shape {w : World} {v : Value} {xss : List (List Int)} (h : RowsAt w v xss) : ∃ a cap, v = .slice a xss.length cap ∧ ∀ j, j < xss.length → ∃ g off u, a = some ⟨g, off, none⟩ ∧ w.cell? ⟨g, off + j, none⟩ = some u ∧ IntsAt w u (xss.getD j []) := by
  obtain ⟨_, a, cap, e, _, hc⟩ := h
  exact ⟨a, cap, e, fun j hj => by obtain ⟨g, off, u, h1, h2, h3⟩ := hc j hj; exact ⟨g, off, u, h1, h2, h3.1⟩⟩
theorem RowsAt.drewN {w : World} {v : Value} {xss : List (List Int)} (h : RowsAt w v xss) (n : Nat) : RowsAt (w.drewN n) v xss := h
theorem RowsAt.below {w w' : World} {B : Nat} {v : Value} {xss : List (List Int)} (h : RowsAt w v xss) (hb : Below B w w') (hs : w.heap.size ≤ B) : RowsAt w' v xss := by
  obtain ⟨h1, a, cap, e, hk, hc⟩ := h
  refine ⟨h1, a, cap, e, hk, fun j hj => ?_⟩
  obtain ⟨g, off, u, h2, h3, h4⟩ := hc j hj
  have := World.block_lt_of_cell? w _ h3
  exact ⟨g, off, u, h2, (hb.cell (p := ⟨g, off + j, none⟩) (Nat.lt_of_lt_of_le this hs)).trans h3, h4.below hb hs⟩
theorem RowsAt.nil (w : World) (a : Option Addr) (cap : Nat) : RowsAt w (.slice a 0 cap) [] := ⟨by decide, a, cap, rfl, Nat.zero_le _, fun j hj => by simp at hj⟩

/-- .. of the call's own: the rows lie apart. -/
def RowsL (w : World) (B L : Nat) (v : Value) (xss : List (List Int)) : Prop :=
  ∃ us : List Value, us.length = xss.length ∧ w.ownsRow B 23 1 v xss.length us ∧ (∀ k, v.ownBlock = some k → k < L) ∧ L ≤ w.heap.size ∧
    (∀ j, j < xss.length → IntsL w B L (us.getD j undef) (xss.getD j [])) ∧
    ∀ i j, i < j → j < xss.length → (us.getD i undef).ownBlock = none ∨ (us.getD i undef).ownBlock ≠ (us.getD j undef).ownBlock
theorem RowsL.drewN {w : World} {B L : Nat} {v : Value} {xss : List (List Int)} (h : RowsL w B L v xss) (n : Nat) : RowsL (w.drewN n) B L v xss := h
theorem RowsL.at {w : World} {B L : Nat} {v : Value} {xss : List (List Int)} (h : RowsL w B L v xss) : RowsAt w v xss := by
  obtain ⟨us, e, ho, _, _, hr, _⟩ := h
  have ho' := ho
  obtain ⟨h1, ⟨rfl, h2⟩ | ⟨g, cap, cur, rfl, h3, h4, h5, h6, h7, h8⟩⟩ := ho
  · have : xss = [] := List.length_eq_zero_iff.1 h2
    subst this
    exact RowsAt.nil _ _ _
  · refine ⟨by unfold maxLen at h6; omega, _, _, rfl, h5, fun j hj => ⟨g, 0, us.getD j undef, rfl, ?_, (hr j hj).c⟩⟩
    rw [Nat.zero_add, ho'.cellAt j (by omega)]
    simp [List.getD, List.getElem?_eq_getElem (show j < us.length by omega)]
theorem RowsL.below {w w' : World} {B L B' : Nat} {v : Value} {xss : List (List Int)} (h : RowsL w B L v xss) (hb : Below B' w w') (hs : w.heap.size ≤ B') : RowsL w' B L v xss := by
  obtain ⟨us, e, ho, h1, h2, hr, hd⟩ := h
  exact ⟨us, e, ownsRow_of_block ho (fun k e => hb.block k (by have := (World.ownsRow.lt ho k e).2; omega)), h1, Nat.le_trans h2 hb.size, fun j hj => (hr j hj).below hb hs, hd⟩
theorem RowsL.keep {w w' : World} {B L B' L' : Nat} {v : Value} {xss : List (List Int)} (h : RowsL w B L v xss) (m : Marked B' L' w w') (d : L ≤ B' ∨ L' ≤ B) : RowsL w' B L v xss := by
  obtain ⟨us, e, ho, h1, h2, hr, hd⟩ := h
  exact ⟨us, e, ownsRow_of_block ho (fun k e => m.block k (by have := h1 k e; have := (World.ownsRow.lt ho k e).1; omega)), h1, by rw [m.size]; exact h2, fun j hj => (hr j hj).keep m d, hd⟩
theorem RowsL.mono {w : World} {B L B' L' : Nat} {v : Value} {xss : List (List Int)} (h : RowsL w B L v xss) (hB : B' ≤ B) (hL : L ≤ L') (hs : L' ≤ w.heap.size) : RowsL w B' L' v xss := by
  obtain ⟨us, e, ho, h1, h2, hr, hd⟩ := h
  refine ⟨us, e, ⟨ho.1, ?_⟩, fun k e => Nat.lt_of_lt_of_le (h1 k e) hL, hs, fun j hj => (hr j hj).mono hB hL hs, hd⟩
  rcases ho.2 with h2 | ⟨g, cap, cur, rfl, h3, h4⟩
  · exact .inl h2
  · exact .inr ⟨g, cap, cur, rfl, by omega, h4⟩
theorem RowsL.nil (w : World) (B L : Nat) (hL : L ≤ w.heap.size) : RowsL w B L (.slice none 0 0) [] :=
  ⟨[], rfl, World.ownsRow_nil _ _ _ _, fun k e => by simp [Value.ownBlock] at e, hL, fun j hj => by simp at hj, fun i j _ hj => by simp at hj⟩
theorem RowsL.made (w : World) (B : Nat) (cap : Nat) (cur : Array Value) (hB : B ≤ w.heap.size) (hm : cap ≤ maxLen) (hc : cur.size = cap) :
    RowsL (w.alloc (.cells cur 23)) B (w.heap.size + 1) (.slice (some ⟨w.heap.size, 0, none⟩) 0 cap) [] :=
  ⟨[], rfl, World.ownsRow_made w cur cap hB hm (by omega), fun k e => by simp [Value.ownBlock] at e; omega, by simp, fun j hj => by simp at hj, fun i j _ hj => by simp at hj⟩

theorem Try.infoRow : (Try.prog.info? 23).map (fun i => (i.zero, i.size, i.bytes)) = some (some (.slice none 0 0), 1, 24) := by kernel_rfl

/-- 'xss = append(xss, ys)': a younger row put behind. -/
theorem wpList_pushR {ops : Array Oper} {rest : List Oper} {o : Oper} {a : Act} {Q : Exit → Act → World → Prop} (w : World) (hgd : o.guard = none) (s x : Operand)
    (ho : o.op = .call { callee := .builtin .append, args := #[s, x], argTypes := #[22, 22] })
    (B L : Nat) (v u : Value) (xss : List (List Int)) (ys : List Int) (hs : a.eval s = v) (h : RowsL w B L v xss) (hu : Ints w L u ys) (T : TypeId) (hx : a.eval x = .slice (some ⟨w.heap.size, 0, none⟩) 1 1)
    (hl : xss.length < 1000000000) (hB : B ≤ L)
    (hK : ∀ v' w', RowsL w' B w'.heap.size v' (xss ++ [ys]) → Below B w w' → wpList Try.prog ops Q rest (a.put o.dst v') w') :
    wpList Try.prog ops Q (o :: rest) a (w.alloc (.cells #[u] T)) := by
  obtain ⟨i0, hi, hz0, hz1, hz2⟩ := info_parts Try.infoRow
  obtain ⟨us, e, hown, h1, h2, hr, hd⟩ := h
  refine wpList_append_own _ hgd s x 22 ho B 23 i0 (.slice none 0 0) 1 24 Try.underlying22 hi hz0 hz1 hz2 rfl (by decide) v xss.length _ hs (hown.alloc _) ⟨w.heap.size, 0, none⟩ 1 1 [u] hx rfl ?c1 ?c2 ?c3 ?c4 ?c5 ?_
  case c1 =>
    intro j z hj
    match j, hj with
    | 0, hj => simp at hj; subst hj; simp [Addr.add]
  case c2 =>
    intro z hz
    simp at hz; subst hz
    obtain ⟨_, ⟨rfl, _⟩ | ⟨g, cap, cur, rfl, _⟩⟩ := hu <;> rfl
  case c3 => unfold maxLen; omega
  case c4 => omega
  case c5 => simp; omega
  intro v' w' h' hg _
  have hT : ∀ {j : Nat} {z : Value} {zs : List Int} {B' L' : Nat}, IntsL w B' L' z zs → IntsL w' B' L' z zs := fun {j z zs B' L'} hz => by
    refine ⟨ownsRow_of_block hz.1 (fun k ek => ?_), hz.2.1, by have := hg.size; have := hz.2.2; simp only [World.size_alloc] at *; omega⟩
    have lt := (World.ownsRow.lt hz.1 k ek).2
    refine (hg.block k (by simp only [World.size_alloc]; omega) (fun e2 => ?_)).trans (Below.heap_alloc _ _ _ lt)
    -- the outer array holds slices, the row integers
    obtain ⟨_, ⟨rfl, _⟩ | ⟨g1, cap1, cur1, rfl, _, q1, _⟩⟩ := hz.1
    · simp [Value.ownBlock] at ek
    · obtain ⟨_, ⟨rfl, _⟩ | ⟨g2, cap2, cur2, rfl, _, q2, _⟩⟩ := hown
      · simp [Value.ownBlock] at e2
      · simp [Value.ownBlock] at ek e2
        subst ek; subst e2
        rw [q1] at q2
        simp only [Option.some.injEq, Obj.cells.injEq] at q2
        exact absurd q2.2.1 (by decide)
  have hul : IntsL w L w.heap.size u ys := hu.lim
  have sz : w.heap.size ≤ w'.heap.size := by have := hg.size; simp only [World.size_alloc] at this; omega
  refine hK v' w' ⟨us ++ [u], by simp [e], ?_, fun k ek => (World.ownsRow.lt h' k ek).2, Nat.le_refl _, fun j hj => ?_, fun i j hij hj => ?_⟩ ?_
  · rw [List.length_append]; exact h'
  · rw [List.length_append] at hj
    simp only [List.length_singleton] at hj
    by_cases c : j < xss.length
    · have e1 : (us ++ [u]).getD j undef = us.getD j undef := by simp [List.getD, List.getElem?_append_left (show j < us.length by omega)]
      have e2 : (xss ++ [ys]).getD j [] = xss.getD j [] := by simp [List.getD, List.getElem?_append_left c]
      rw [e1, e2]
      exact (hT (j := j) (hr j c)).mono (Nat.le_refl _) (by omega) (Nat.le_refl _)
    · obtain rfl : j = xss.length := by omega
      have e1 : (us ++ [u]).getD xss.length undef = u := by rw [← e]; simp [List.getD]
      have e2 : (xss ++ [ys]).getD xss.length [] = ys := by simp [List.getD]
      rw [e1, e2]
      exact (hT (j := 0) hul).mono hB sz (Nat.le_refl _)
  · rw [List.length_append] at hj
    simp only [List.length_singleton] at hj
    have e1 : ∀ i, i < xss.length → (us ++ [u]).getD i undef = us.getD i undef := fun i hi => by simp [List.getD, List.getElem?_append_left (show i < us.length by omega)]
    by_cases c : j < xss.length
    · rw [e1 i (by omega), e1 j c]
      exact hd i j hij c
    · obtain rfl : j = xss.length := by omega
      have e2 : (us ++ [u]).getD xss.length undef = u := by rw [← e]; simp [List.getD]
      rw [e1 i hij, e2]
      cases k1 : (us.getD i undef).ownBlock with
      | none => exact .inl rfl
      | some k =>
        right
        intro k2
        have a1 := (hr i hij).2.1 k k1
        have a2 := (World.ownsRow.lt hu k k2.symm).1
        omega
  · exact ((Below.refl _ _).alloc (by omega) _).grown hg (by simp; omega) (fun k hk => (World.ownsRow.lt hown k hk).1)
end Go.Proofs.Ytodlcjdbpibacaa
