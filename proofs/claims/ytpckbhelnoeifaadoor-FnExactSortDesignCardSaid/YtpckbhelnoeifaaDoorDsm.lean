/- Lists in order, by the model (l10Sort): the heads of rows. -/
import Derived.Test.YtpckbhelnoeifaaDoorSdi
import Derived.Test.YtpckbhelnoeifaaDoorHas
import Derived.Test.YtpckbhelnoeifaaDoorDok
namespace Go.Proofs.YtpckbhelnoeifaaDoor
open Go.RowKit Go.Shelf
set_option linter.unusedVariables false
set_option linter.unusedSimpArgs false

/-- A slice of the call's own that holds the heads of rows. -/
def Hdr (w : World) (B : Nat) (v : Value) (us : List Value) : Prop := w.ownsRow B 47 1 v us.length us ∧ ∀ u ∈ us, u.oneCell' = true
theorem Hdr.below {w w' : World} {B B' : Nat} {v : Value} {us : List Value} (h : Hdr w B v us) (hb : Below B' w w') (hs : w.heap.size ≤ B') : Hdr w' B v us :=
  ⟨ownsRow_of_block h.1 (fun k e => hb.block k (by have := (World.ownsRow.lt h.1 k e).2; omega)), h.2⟩
theorem Hdr.mono {w : World} {B B' : Nat} {v : Value} {us : List Value} (h : Hdr w B v us) (hB : B' ≤ B) : Hdr w B' v us := by
  refine ⟨⟨h.1.1, ?_⟩, h.2⟩
  rcases h.1.2 with h2 | ⟨g, cap, cur, rfl, h3, h4⟩
  · exact .inl h2
  · exact .inr ⟨g, cap, cur, rfl, by omega, h4⟩
/-- 'xs = append(xs, ys...)' of heads. -/
theorem wpList_appendH {ops : Array Oper} {rest : List Oper} {o : Oper} {a : Act} {Q : Exit → Act → World → Prop} (w : World) (hgd : o.guard = none) (s x : Operand)
    (ho : o.op = .call { callee := .builtin .append, args := #[s, x], argTypes := #[22, 22] })
    (B : Nat) (v : Value) (us : List Value) (hs : a.eval s = v) (h : Hdr w B v us) (g k c m : Nat) (news : List Value) (hx : a.eval x = .slice (some ⟨g, k, none⟩) m c) (hm : news.length = m)
    (hc : ∀ j u, news[j]? = some u → w.cell? ⟨g, k + j, none⟩ = some u) (h1 : ∀ u ∈ news, u.oneCell' = true) (hl : us.length + m < 1000000000) (hB : B ≤ w.heap.size)
    (hK : ∀ v' w', Hdr w' B v' (us ++ news) → Below B w w' → w.grownBy w' v.ownBlock → wpList Tryd.prog ops Q rest (a.put o.dst v') w') :
    wpList Tryd.prog ops Q (o :: rest) a w := by
  obtain ⟨i0, hi, hz0, hz1, hz2⟩ := info_parts Tryd.infoRow
  refine wpList_append_own _ hgd s x 22 ho B 47 i0 (.slice none 0 0) 1 24 Tryd.underlying22 hi hz0 hz1 hz2 rfl (by decide) v us.length us hs h.1 ⟨g, k, none⟩ m c news hx (by omega) (fun j u hj => by rw [show (⟨g, k, none⟩ : Addr).add j = ⟨g, k + j, none⟩ by unfold Addr.add; split <;> simp_all]; exact hc j u hj) h1 (by unfold maxLen; omega) (by omega) hB ?_
  intro v' w' h' hg _
  refine hK v' w' ⟨by rw [List.length_append, hm]; exact h', fun u hu => ?_⟩ ((Below.refl _ _).grown hg hB (fun k hk => (World.ownsRow.lt h.1 k hk).1)) hg
  rcases List.mem_append.1 hu with q | q
  · exact h.2 u q
  · exact h1 u q

/-- A row of numbers is not touched by an append of heads. -/
theorem Ints.past {w w' : World} {B J : Nat} {v u : Value} {us : List Value} {x : List Int} (hN : Ints w J u x) (hH : Hdr w B v us) (hg : w.grownBy w' v.ownBlock) : Ints w' J u x := by
  refine ownsRow_of_block hN (fun q e => hg.block q (World.ownsRow.lt hN q e).2 (fun e2 => ?_))
  obtain ⟨_, ⟨rfl, _⟩ | ⟨g1, cap1, cur1, rfl, _, q1, _⟩⟩ := hN
  · simp [Value.ownBlock] at e
  · obtain ⟨⟨_, ⟨rfl, _⟩ | ⟨g2, cap2, cur2, rfl, _, q2, _⟩⟩, _⟩ := hH
    · simp [Value.ownBlock] at e2
    · simp [Value.ownBlock] at e e2
      subst e; subst e2
      rw [q1] at q2
      simp only [Option.some.injEq, Obj.cells.injEq] at q2
      exact absurd q2.2.1 (by decide)

/-- Rows with their heads. -/
def RowsH (w : World) (B L : Nat) (us : List Value) (xss : List (List Int)) : Prop :=
  us.length = xss.length ∧ (∀ j, j < xss.length → IntsL w B L (us.getD j undef) (xss.getD j [])) ∧
    ∀ i j, i < j → j < xss.length → (us.getD i undef).ownBlock = none ∨ (us.getD i undef).ownBlock ≠ (us.getD j undef).ownBlock
theorem IntsL.one {w : World} {B L : Nat} {u : Value} {ys : List Int} (h : IntsL w B L u ys) : u.oneCell' = true := by
  obtain ⟨⟨_, ⟨rfl, _⟩ | ⟨g, cap, cur, rfl, _⟩⟩, _⟩ := h <;> rfl
theorem RowsL.heads {w : World} {B L : Nat} {v : Value} {xss : List (List Int)} (h : RowsL w B L v xss) : ∃ us, Hdr w B v us ∧ RowsH w B L us xss ∧ (∀ k, v.ownBlock = some k → k < L) ∧ L ≤ w.heap.size := by
  obtain ⟨us, e, ho, h1, h2, hr, hd⟩ := h
  refine ⟨us, ⟨by rw [e]; exact ho, fun u hu => ?_⟩, ⟨e, hr, hd⟩, h1, h2⟩
  obtain ⟨i, hi, eu⟩ := List.mem_iff_getElem.1 hu
  have := (hr i (by omega)).one
  rwa [List.getD_eq_getElem?_getD, List.getElem?_eq_getElem hi, Option.getD_some, eu] at this
theorem RowsL.ofHeads {w : World} {B : Nat} {v : Value} {us : List Value} {xss : List (List Int)} (h : Hdr w B v us) (hr : RowsH w B w.heap.size us xss) : RowsL w B w.heap.size v xss :=
  ⟨us, hr.1, by rw [← hr.1]; exact h.1, fun k e => (World.ownsRow.lt h.1 k e).2, Nat.le_refl _, hr.2.1, hr.2.2⟩
theorem RowsH.below {w w' : World} {B L B' : Nat} {us : List Value} {xss : List (List Int)} (h : RowsH w B L us xss) (hb : Below B' w w') (hs : w.heap.size ≤ B') : RowsH w' B L us xss :=
  ⟨h.1, fun j hj => (h.2.1 j hj).below hb hs, h.2.2⟩
theorem Hdr.cell {w : World} {B g c : Nat} {us : List Value} (h : Hdr w B (.slice (some ⟨g, 0, none⟩) us.length c) us) (j : Nat) (u : Value) (hj : us[j]? = some u) : w.cell? ⟨g, j, none⟩ = some u := by
  have hl : j < us.length := (List.getElem?_eq_some_iff.1 hj).1
  rw [h.1.cellAt j (by omega)]
  exact hj
theorem Hdr.shape {w : World} {B : Nat} {v : Value} {us : List Value} (h : Hdr w B v us) : (v = .slice none 0 0 ∧ us = []) ∨ ∃ g c, v = .slice (some ⟨g, 0, none⟩) us.length c ∧ us.length ≤ c ∧ g < w.heap.size ∧ B ≤ g := by
  obtain ⟨⟨e1, ⟨rfl, e2⟩ | ⟨g, cap, cur, rfl, h3, h4, h5, h6⟩⟩, _⟩ := h
  · exact .inl ⟨rfl, List.length_eq_zero_iff.1 e2⟩
  · exact .inr ⟨g, cap, rfl, h5, (Array.getElem?_eq_some_iff.1 h4).1, h3⟩
theorem Hdr.more {w : World} {B m : Nat} {v : Value} {us : List Value} (h : Hdr w B v us) (hm : us.length = m) (h0 : 0 < m) : ∃ g c, v = .slice (some ⟨g, 0, none⟩) m c := by
  obtain ⟨-, en⟩ | ⟨g, c, ev, -⟩ := h.shape
  · rw [en] at hm; simp at hm; omega
  · exact ⟨g, c, by rw [ev, hm]⟩
/-- A row put between: the heads. -/
theorem RowsH.ins {w : World} {B L : Nat} {us : List Value} {xss : List (List Int)} (h : RowsH w B L us xss) {u : Value} {ys : List Int} (hu : Ints w L u ys) (hBL : B ≤ L) (hL : L ≤ w.heap.size) {k : Nat} (hk : k ≤ xss.length) :
    RowsH w B w.heap.size (us.take k ++ u :: us.drop k) (insAt xss ys k) := by
  obtain ⟨e, hr, hd⟩ := h
  have key : ∀ (β : Type) (l : List β) (x d : β), k ≤ l.length → ∀ j, (l.take k ++ x :: l.drop k).getD j d = if j < k then l.getD j d else if j = k then x else l.getD (j - 1) d := fun β l x d hk j => by
    have lt : (l.take k).length = k := by simp; omega
    by_cases a : j < k
    · rw [if_pos a, List.getD_eq_getElem?_getD, List.getElem?_append_left (by omega), List.getD_eq_getElem?_getD, List.getElem?_take, if_pos a]
    · rw [if_neg a]
      by_cases b : j = k
      · rw [if_pos b, List.getD_eq_getElem?_getD, List.getElem?_append_right (by omega), lt, b, Nat.sub_self]; rfl
      · rw [if_neg b, List.getD_eq_getElem?_getD, List.getElem?_append_right (by omega), lt, show j - k = (j - 1 - k) + 1 by omega, List.getElem?_cons_succ, List.getElem?_drop, show k + (j - 1 - k) = j - 1 by omega, List.getD_eq_getElem?_getD]
  have ku := key _ us u undef (by omega)
  have kx := key _ xss ys [] hk
  have hul : IntsL w B w.heap.size u ys := hu.lim.mono hBL (Nat.le_refl _) (Nat.le_refl _)
  have hn : ∀ i, i < xss.length → (us.getD i undef).ownBlock = none ∨ (us.getD i undef).ownBlock ≠ u.ownBlock := fun i hi => by
    cases k1 : (us.getD i undef).ownBlock with
    | none => exact .inl rfl
    | some q =>
      right
      intro k2
      have a1 := (hr i hi).2.1 q k1
      have a2 := (World.ownsRow.lt hu q k2.symm).1
      omega
  unfold insAt
  have len : (xss.take k ++ ys :: xss.drop k).length = xss.length + 1 := by simp; omega
  refine ⟨by simp [e], fun j hj => ?_, fun i j hij hj => ?_⟩
  · rw [len] at hj
    rw [ku, kx]
    by_cases a : j < k
    · rw [if_pos a, if_pos a]; exact (hr j (by omega)).mono (Nat.le_refl _) hL (Nat.le_refl _)
    · rw [if_neg a, if_neg a]
      by_cases b : j = k
      · rw [if_pos b, if_pos b]; exact hul
      · rw [if_neg b, if_neg b]; exact (hr (j - 1) (by omega)).mono (Nat.le_refl _) hL (Nat.le_refl _)
  · rw [len] at hj
    by_cases a : i < k
    · rw [ku i, if_pos a]
      by_cases b : j < k
      · rw [ku j, if_pos b]; exact hd i j hij (by omega)
      · rw [ku j, if_neg b]
        by_cases c : j = k
        · rw [if_pos c]; exact hn i (by omega)
        · rw [if_neg c]; exact hd i (j - 1) (by omega) (by omega)
    · rw [ku j, if_neg (show ¬ j < k by omega), if_neg (show ¬ j = k by omega), ku i, if_neg a]
      by_cases b : i = k
      · rw [if_pos b]
        rcases hn (j - 1) (by omega) with q | q
        · cases k1 : u.ownBlock with
          | none => exact .inl rfl
          | some z => right; rw [q]; exact fun h => by cases h
        · right; exact fun h => q h.symm
      · rw [if_neg b]; exact hd (i - 1) (j - 1) (by omega) (by omega)
end Go.Proofs.YtpckbhelnoeifaaDoor
