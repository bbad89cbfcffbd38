/- Rows that grow, at any place. -/
import Derived.Test.YtdhlnagkhkcoiaaDoorRowc
import Derived.Test.YtdhlnagkhkcoiaaDoorApa
namespace Go.Proofs.YtdhlnagkhkcoiaaDoor
open Go.RowKit
set_option linter.unusedVariables false

theorem ownBlock_cellsG {w : World} {B : Nat} {e : TypeId} {size : Nat} {v : Value} {n : Nat} {us : List Value} (h : w.ownsRow B e size v n us) {k : Nat} (hk : v.ownBlock = some k) : ∃ c, w.heap[k]? = some (.cells c e (0, 0)) := by
  obtain ⟨_, ⟨rfl, _⟩ | ⟨g, cap, cur, rfl, _, q, _⟩⟩ := h
  · simp [Value.ownBlock] at hk
  · simp [Value.ownBlock] at hk
    subst hk
    exact ⟨_, q⟩
theorem typ_apartG {w : World} {B B' : Nat} {e e' : TypeId} {size size' : Nat} {v v' : Value} {n n' : Nat} {us us' : List Value} (h : w.ownsRow B e size v n us) (h' : w.ownsRow B' e' size' v' n' us') (he : e ≠ e') {k : Nat} (hk : v.ownBlock = some k) : v'.ownBlock ≠ some k := fun e2 => by
  obtain ⟨c, hc⟩ := ownBlock_cellsG h hk
  obtain ⟨c', hc'⟩ := ownBlock_cellsG h' e2
  rw [hc] at hc'
  simp only [Option.some.injEq, Obj.cells.injEq] at hc'
  exact he hc'.2.1

/-- 'xss[j] = append(xss[j], y)': the append. -/
theorem wpList_growAt {ops : Array Oper} {rest : List Oper} {o : Oper} {a : Act} {Q : Exit → Act → World → Prop} (w : World) (hgd : o.guard = none) (s x : Operand)
    (ho : o.op = .call { callee := .builtin .append, args := #[s, x], argTypes := #[60, 60] })
    (B L g n cap : Nat) (u : Value) (xss : List (List Int)) (m : Nat) (hm : m < xss.length) (xs : List Int) (hxs : xss.getD m [] = xs) (h : RowsL w B L (.slice (some ⟨g, 0, none⟩) n cap) xss) (hc : w.cell? ⟨g, m, none⟩ = some u) (hs : a.eval s = u)
    (y : Int) (T : TypeId) (hx : a.eval x = .slice (some ⟨w.heap.size, 0, none⟩) 1 1)
    (hl : xs.length < 1000000000000) (hB : B ≤ w.heap.size)
    (hK : ∀ u' w', (∃ ub uc, u' = .slice ub (xs.length + 1) uc) → RowsL (w'.setCell ⟨g, m, none⟩ u') B (w'.setCell ⟨g, m, none⟩ u').heap.size (.slice (some ⟨g, 0, none⟩) n cap) (xss.set m (xs ++ [y])) → (∃ old, w'.cell? ⟨g, m, none⟩ = some old) → w'.frozen? ⟨g, m, none⟩ = false →
      Below B w (w'.setCell ⟨g, m, none⟩ u') → wpList Tryd.prog ops Q rest (a.put o.dst u') w') :
    wpList Tryd.prog ops Q (o :: rest) a (w.alloc (.cells #[.int .i64 y] T)) := by
  obtain ⟨i0, hi, hz0, hz1, hz2⟩ := info_parts Tryd.infoInt
  obtain ⟨us, e, hown, h1, h2, hr, hd⟩ := h
  obtain ⟨q, hq⟩ : ∃ q, xss.length = q := ⟨_, rfl⟩
  rw [hq] at e hown hr hd hm
  obtain rfl : n = q := by
    rcases hown.2 with ⟨e3, _⟩ | ⟨_, _, _, e3, _⟩
    · cases e3
    · simp only [Value.slice.injEq] at e3; exact e3.2.1
  have eu : us.getD m undef = u := by
    rw [hown.cellAt m (by omega)] at hc
    simp [List.getD, hc]
  have gx := hxs
  have hu := hr m (by omega)
  rw [eu, gx] at hu
  have gB := World.ownsRow.lt hown g rfl
  refine wpList_plain hgd fun K hK' => wp_append_at _ s x 60 ho B 2 i0 (.int .i64 0) 1 8 Tryd.underlying60 hi hz0 hz1 hz2 rfl (by decide) u xs.length _ hs (hu.1.alloc _) ⟨w.heap.size, 0, none⟩ 1 1 [.int .i64 y] hx rfl ?c1 ?c2 ?c3 ?c4 ?c5 ?_
  case c1 =>
    intro j z hj
    match j, hj with
    | 0, hj => simp at hj; subst hj; simp [Addr.add]
  case c2 => intro z hz; simp at hz; subst hz; rfl
  case c3 => unfold maxLen; omega
  case c4 => omega
  case c5 => simp; omega
  intro u' w' h' hg hat
  have sz : w.heap.size ≤ w'.heap.size := by have := hg.size; simp only [World.size_alloc] at this; omega
  have ug : u.ownBlock ≠ some g := typ_apartG hown hu.1 (by decide) rfl
  have old : ∀ k, k < w.heap.size → u.ownBlock ≠ some k → u'.ownBlock ≠ some k := fun k lt hk e3 => by
    rcases hat with e4 | e4
    · exact hk (e4.symm.trans e3)
    · rw [e4] at e3
      simp only [Option.some.injEq, World.size_alloc] at e3
      omega
  have ug' := old g gB.2 ug
  have kp : ∀ k, k < w.heap.size → u.ownBlock ≠ some k → w'.heap[k]? = w.heap[k]? := fun k lt hk =>
    (hg.block k (by simp only [World.size_alloc]; omega) (fun e2 => hk e2.symm)).trans (Below.heap_alloc _ _ _ lt)
  have hown' : w'.ownsRow B 60 1 (.slice (some ⟨g, 0, none⟩) n cap) n us := ownsRow_of_block hown (fun k ek => by
    simp only [Value.ownBlock, Option.some.injEq] at ek
    subst ek
    exact kp g gB.2 ug)
  have st := (hown'.stored m u').1
  have sb : ∀ k, k ≠ g → (w'.setCell ⟨g, m, none⟩ u').heap[k]? = w'.heap[k]? := fun k hk => Below.heap_setCell w' ⟨g, m, none⟩ u' k hk
  have sz2 : (w'.setCell ⟨g, m, none⟩ u').heap.size = w'.heap.size := by simp [World.setCell]
  have hIu : IntsL (w'.setCell ⟨g, m, none⟩ u') B (w'.setCell ⟨g, m, none⟩ u').heap.size u' (xs ++ [y]) := by
    refine ⟨?_, fun k ek => by rw [sz2]; exact (World.ownsRow.lt h' k ek).2, Nat.le_refl _⟩
    unfold Ints
    rw [List.length_append, List.map_append]
    exact ownsRow_of_block h' (fun k ek => sb k (fun e2 => ug' (e2 ▸ ek)))
  have g1 : ∀ i, i ≠ m → (us.set m u').getD i undef = us.getD i undef := fun i hi => by simp [List.getD, Ne.symm hi]
  have g2 : (us.set m u').getD m undef = u' := by simp [List.getD, show m < us.length by omega]
  have g3 : ∀ i, i ≠ m → (xss.set m (xs ++ [y])).getD i [] = xss.getD i [] := fun i hi => by simp [List.getD, Ne.symm hi]
  have g4 : (xss.set m (xs ++ [y])).getD m [] = xs ++ [y] := by simp [List.getD, show m < xss.length by omega]
  have ln2 : (xss.set m (xs ++ [y])).length = n := by rw [List.length_set, hq]
  have ne : ∀ i, i < n → i ≠ m → ∀ k, (us.getD i undef).ownBlock = some k → u.ownBlock ≠ some k := fun i hi hne k ek e3 => by
    by_cases c : i < m
    · have := hd i m c (by omega)
      rw [eu, ek, e3] at this
      rcases this with t | t
      · cases t
      · exact t rfl
    · have := hd m i (by omega) hi
      rw [eu, ek, e3] at this
      rcases this with t | t
      · cases t
      · exact t rfl
  refine hK' _ _ (hK u' w' (by
    rcases h'.2 with ⟨_, h2⟩ | ⟨g', cap', cur, rfl, _⟩
    · omega
    · exact ⟨_, _, rfl⟩) ⟨us.set m u', by rw [List.length_set, ln2, e], by rw [ln2]; exact st, fun k ek => by simp only [Value.ownBlock, Option.some.injEq] at ek; subst ek; rw [sz2]; exact Nat.lt_of_lt_of_le gB.2 sz, Nat.le_refl _, fun j hj => ?_, fun i j hij hj => ?_⟩ ?_ (hown'.frozenAt m) ?_)
  · rw [ln2] at hj
    by_cases c : j = m
    · subst c
      rw [g2, g4]
      exact hIu
    · rw [g1 j c, g3 j c]
      have hz := hr j (by omega)
      refine ⟨ownsRow_of_block hz.1 (fun k ek => ?_), fun k ek => by rw [sz2]; have := (World.ownsRow.lt hz.1 k ek).2; omega, Nat.le_refl _⟩
      have lt := (World.ownsRow.lt hz.1 k ek).2
      exact (sb k (fun e2 => typ_apartG hown hz.1 (by decide) rfl (e2 ▸ ek))).trans (kp k lt (ne j hj c k ek))
  · rw [ln2] at hj
    by_cases c : j = m
    · subst c
      rw [g1 i (by omega), g2]
      cases k1 : (us.getD i undef).ownBlock with
      | none => exact .inl rfl
      | some k =>
        right
        intro k2
        have hz := hr i (by omega)
        exact old k (World.ownsRow.lt hz.1 k k1).2 (ne i (by omega) (by omega) k k1) k2.symm
    · by_cases c' : i = m
      · subst c'
        rw [g1 j c, g2]
        cases k1 : (us.getD j undef).ownBlock with
        | none => exact .inr (by
            rcases h'.2 with ⟨_, h2⟩ | ⟨g', cap', cur, rfl, _⟩
            · omega
            · simp [Value.ownBlock])
        | some k =>
          right
          intro k2
          have hz := hr j hj
          exact old k (World.ownsRow.lt hz.1 k k1).2 (ne j hj c k k1) k2
      · rw [g1 i c', g1 j c]
        exact hd i j hij hj
  · rw [hown'.cellAt m (by omega), List.getElem?_eq_getElem (by omega)]; exact ⟨_, rfl⟩
  · have b1 : Below B w w' := ((Below.refl _ _).alloc hB _).grown hg (by simp; omega) (fun k hk => (World.ownsRow.lt hu.1 k hk).1)
    exact b1.trans ⟨rfl, rfl, rfl, by rw [sz2]; exact Nat.le_refl _, fun k hk => sb k (by omega)⟩
end Go.Proofs.YtdhlnagkhkcoiaaDoor
