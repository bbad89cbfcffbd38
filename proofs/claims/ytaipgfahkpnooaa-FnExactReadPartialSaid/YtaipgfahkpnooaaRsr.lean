/- Rows that grow, beside the iterator of a range over a string. -/
import Derived.Test.YtaipgfahkpnooaaRowc
import Derived.Maps.AppendAt
import Derived.Lib.OthersKept
namespace Go.Proofs.Ytaipgfahkpnooaa
open Go.RowKit Go.Lib
set_option linter.unusedVariables false

/-- Strings' iterators stand as they stood. -/
def KeepIt (w w' : World) : Prop := ∀ (k : Nat) (s : ByteArray) (p : Nat), w.heap[k]? = some (.stringIter s p) → w'.heap[k]? = some (.stringIter s p)
theorem ownBlock_cells {w : World} {B : Nat} {e : TypeId} {size : Nat} {v : Value} {n : Nat} {us : List Value} (h : w.ownsRow B e size v n us) {k : Nat} (hk : v.ownBlock = some k) : ∃ c, w.heap[k]? = some (.cells c e (0, 0)) := by
  obtain ⟨_, ⟨rfl, _⟩ | ⟨g, cap, cur, rfl, _, q, _⟩⟩ := h
  · simp [Value.ownBlock] at hk
  · simp [Value.ownBlock] at hk
    subst hk
    exact ⟨_, q⟩
theorem it_apart {w : World} {B : Nat} {e : TypeId} {size : Nat} {v : Value} {n : Nat} {us : List Value} (h : w.ownsRow B e size v n us) {k : Nat} {s : ByteArray} {p : Nat} (hk : w.heap[k]? = some (.stringIter s p)) : v.ownBlock ≠ some k := fun e2 => by
  obtain ⟨c, hc⟩ := ownBlock_cells h e2
  rw [hk] at hc
  cases hc
theorem typ_apart {w : World} {B B' : Nat} {e e' : TypeId} {size size' : Nat} {v v' : Value} {n n' : Nat} {us us' : List Value} (h : w.ownsRow B e size v n us) (h' : w.ownsRow B' e' size' v' n' us') (he : e ≠ e') {k : Nat} (hk : v.ownBlock = some k) : v'.ownBlock ≠ some k := fun e2 => by
  obtain ⟨c, hc⟩ := ownBlock_cells h hk
  obtain ⟨c', hc'⟩ := ownBlock_cells h' e2
  rw [hc] at hc'
  simp only [Option.some.injEq, Obj.cells.injEq] at hc'
  exact he hc'.2.1
theorem RowsL.iterAt {w : World} {B L : Nat} {v : Value} {xss : List (List Int)} (h : RowsL w B L v xss) {k : Nat} {s : ByteArray} {p : Nat} (hk : w.heap[k]? = some (.stringIter s p)) (p' : Nat) : RowsL (w.iterAt k s p') B L v xss := by
  obtain ⟨us, e, ho, h1, h2, hr, hd⟩ := h
  refine ⟨us, e, ownsRow_of_block ho (fun i ei => iterAt_other _ _ _ _ _ (fun x => it_apart ho hk (x ▸ ei))), h1, by rw [iterAt_size]; exact h2, fun j hj => ?_, hd⟩
  have := hr j hj
  exact ⟨ownsRow_of_block this.1 (fun i ei => iterAt_other _ _ _ _ _ (fun x => it_apart this.1 hk (x ▸ ei))), this.2.1, by rw [iterAt_size]; exact this.2.2⟩
theorem RowsL.shapeC {w : World} {B L : Nat} {v : Value} {xss : List (List Int)} (h : RowsL w B L v xss) (h1 : 1 ≤ xss.length) : ∃ g cap, v = .slice (some ⟨g, 0, none⟩) xss.length cap := by
  obtain ⟨us, e, ho, _⟩ := h
  rcases ho.2 with ⟨_, h2⟩ | ⟨g, cap, cur, rfl, _⟩
  · omega
  · exact ⟨g, cap, rfl⟩
/-- An append of the call's own that says which block it leaves, at one operation. -/
theorem wp_append_at {P : Program} {o : Oper} {a : Act} {K : Act → World → Prop} {Q : Exit → Act → World → Prop} (w : World) (s x : Operand) (t : TypeId)
    (ho : o.op = .call { callee := .builtin .append, args := #[s, x], argTypes := #[t, t] })
    (base : Nat) (e : TypeId) (i : TypeInfo) (z : Value) (size bytes : Nat) (ht : P.underlying t = some (.slice e)) (hi : P.info? e = some i) (hz : i.zero = some z)
    (hsize : i.size = size) (hby : i.bytes = bytes) (hzs : z.cells.size = size) (hsz : 0 < size)
    (v : Value) (n : Nat) (xs : List Value) (hs : a.eval s = v) (hown : w.ownsRow base e size v n xs)
    (ad : Addr) (m c : Nat) (news : List Value) (hx : a.eval x = .slice (some ad) m c) (hl : news.length = m * size) (hnews : ∀ j u, news[j]? = some u → w.cell? (ad.add j) = some u) (h1 : ∀ u ∈ news, u.oneCell' = true)
    (h63 : n + m ≤ maxLen) (hbytes : (n + m) * bytes ≤ 140737488355328) (hbase : base ≤ w.heap.size)
    (h : ∀ v' w', w'.ownsRow base e size v' (n + m) (xs ++ news) → w.grownBy w' v.ownBlock → (v'.ownBlock = v.ownBlock ∨ v'.ownBlock = some w.heap.size) → K (a.put o.dst v') w') : o.wp P a w K Q := by
  obtain ⟨v', w', hr, h2, h3, -, h4⟩ := Go.run_append_own_at (P := P) (w := w) base t o.type e i z size bytes ht hi hz hsize hby hzs hsz v n xs hown ad m c news hl hnews h1 h63 hbytes hbase
  unfold Oper.wp execOp
  simp only [ho, resolve, invoke, builtin, Sem.run_bind, Sem.run_pure, Result.andThen_ok, List.map_toArray, List.map_cons, List.map_nil, hs, hx, hr]
  exact h v' w' h2 h3 h4

/-- 'xss = append(xss, ys)': a younger row put behind. -/
theorem wpList_pushRk {ops : Array Oper} {rest : List Oper} {o : Oper} {a : Act} {Q : Exit → Act → World → Prop} (w : World) (hgd : o.guard = none) (s x : Operand)
    (ho : o.op = .call { callee := .builtin .append, args := #[s, x], argTypes := #[22, 22] })
    (B L : Nat) (v u : Value) (xss : List (List Int)) (ys : List Int) (hs : a.eval s = v) (h : RowsL w B L v xss) (hu : Ints w L u ys) (T : TypeId) (hx : a.eval x = .slice (some ⟨w.heap.size, 0, none⟩) 1 1)
    (hl : xss.length < 1000000000) (hB : B ≤ L)
    (hK : ∀ v' w', RowsL w' B w'.heap.size v' (xss ++ [ys]) → Below B w w' → KeepIt w w' → wpList Try.prog ops Q rest (a.put o.dst v') w') :
    wpList Try.prog ops Q (o :: rest) a (w.alloc (.cells #[u] T)) := by
  obtain ⟨i0, hi, hz0, hz1, hz2⟩ := info_parts Try.infoRow
  obtain ⟨us, e, hown, h1, h2, hr, hd⟩ := h
  refine wpList_plain hgd fun K hK' => wp_append_at _ s x 22 ho B 28 i0 (.slice none 0 0) 1 24 Try.underlying22 hi hz0 hz1 hz2 rfl (by decide) v xss.length _ hs (hown.alloc _) ⟨w.heap.size, 0, none⟩ 1 1 [u] hx rfl ?c1 ?c2 ?c3 ?c4 ?c5 ?_
  case c1 =>
    intro j z hj
    match j, hj with
    | 0, hj => simp at hj; subst hj; simp [Addr.add]
  case c2 =>
    intro z hz
    simp at hz; subst hz
    obtain ⟨_, ⟨rfl, _⟩ | ⟨g, cap, cur, rfl, _⟩⟩ := hu <;> rfl
  case c3 => unfold maxLen; omega
  case c4 => omega
  case c5 => simp; omega
  intro v' w' h' hg hat
  have hT : ∀ {j : Nat} {z : Value} {zs : List Int} {B' L' : Nat}, IntsL w B' L' z zs → IntsL w' B' L' z zs := fun {j z zs B' L'} hz => by
    refine ⟨ownsRow_of_block hz.1 (fun k ek => ?_), hz.2.1, by have := hg.size; have := hz.2.2; simp only [World.size_alloc] at *; omega⟩
    have lt := (World.ownsRow.lt hz.1 k ek).2
    refine (hg.block k (by simp only [World.size_alloc]; omega) (fun e2 => ?_)).trans (Below.heap_alloc _ _ _ lt)
    -- the outer array holds slices, the row integers
    obtain ⟨_, ⟨rfl, _⟩ | ⟨g1, cap1, cur1, rfl, _, q1, _⟩⟩ := hz.1
    · simp [Value.ownBlock] at ek
    · obtain ⟨_, ⟨rfl, _⟩ | ⟨g2, cap2, cur2, rfl, _, q2, _⟩⟩ := hown
      · simp [Value.ownBlock] at e2
      · simp [Value.ownBlock] at ek e2
        subst ek; subst e2
        rw [q1] at q2
        simp only [Option.some.injEq, Obj.cells.injEq] at q2
        exact absurd q2.2.1 (by decide)
  have hul : IntsL w L w.heap.size u ys := hu.lim
  have sz : w.heap.size ≤ w'.heap.size := by have := hg.size; simp only [World.size_alloc] at this; omega
  refine hK' _ _ (hK v' w' ⟨us ++ [u], by simp [e], ?_, fun k ek => (World.ownsRow.lt h' k ek).2, Nat.le_refl _, fun j hj => ?_, fun i j hij hj => ?_⟩ ?_ ?_)
  · rw [List.length_append]; exact h'
  · rw [List.length_append] at hj
    simp only [List.length_singleton] at hj
    by_cases c : j < xss.length
    · have e1 : (us ++ [u]).getD j undef = us.getD j undef := by simp [List.getD, List.getElem?_append_left (show j < us.length by omega)]
      have e2 : (xss ++ [ys]).getD j [] = xss.getD j [] := by simp [List.getD, List.getElem?_append_left c]
      rw [e1, e2]
      exact (hT (j := j) (hr j c)).mono (Nat.le_refl _) (by omega) (Nat.le_refl _)
    · obtain rfl : j = xss.length := by omega
      have e1 : (us ++ [u]).getD xss.length undef = u := by rw [← e]; simp [List.getD]
      have e2 : (xss ++ [ys]).getD xss.length [] = ys := by simp [List.getD]
      rw [e1, e2]
      exact (hT (j := 0) hul).mono hB sz (Nat.le_refl _)
  · rw [List.length_append] at hj
    simp only [List.length_singleton] at hj
    have e1 : ∀ i, i < xss.length → (us ++ [u]).getD i undef = us.getD i undef := fun i hi => by simp [List.getD, List.getElem?_append_left (show i < us.length by omega)]
    by_cases c : j < xss.length
    · rw [e1 i (by omega), e1 j c]
      exact hd i j hij c
    · obtain rfl : j = xss.length := by omega
      have e2 : (us ++ [u]).getD xss.length undef = u := by rw [← e]; simp [List.getD]
      rw [e1 i hij, e2]
      cases k1 : (us.getD i undef).ownBlock with
      | none => exact .inl rfl
      | some k =>
        right
        intro k2
        have a1 := (hr i hij).2.1 k k1
        have a2 := (World.ownsRow.lt hu k k2.symm).1
        omega
  · exact ((Below.refl _ _).alloc (by omega) _).grown hg (by simp; omega) (fun k hk => (World.ownsRow.lt hown k hk).1)
  · intro k s p hk
    have lt : k < w.heap.size := (Array.getElem?_eq_some_iff.1 hk).1
    refine (hg.block k (by simp only [World.size_alloc]; omega) (fun e2 => it_apart hown hk e2.symm)).trans ((Below.heap_alloc _ _ _ lt).trans hk)

/-- 'xss[last] = append(xss[last], y)': the append. -/
theorem wpList_growR {ops : Array Oper} {rest : List Oper} {o : Oper} {a : Act} {Q : Exit → Act → World → Prop} (w : World) (hgd : o.guard = none) (s x : Operand)
    (ho : o.op = .call { callee := .builtin .append, args := #[s, x], argTypes := #[28, 28] })
    (B L g n cap : Nat) (u : Value) (xss : List (List Int)) (xs : List Int) (h : RowsL w B L (.slice (some ⟨g, 0, none⟩) n cap) (xss ++ [xs])) (hc : w.cell? ⟨g, xss.length, none⟩ = some u) (hs : a.eval s = u)
    (y : Int) (T : TypeId) (hx : a.eval x = .slice (some ⟨w.heap.size, 0, none⟩) 1 1)
    (hl : xs.length < 1000000000000) (hB : B ≤ w.heap.size)
    (hK : ∀ u' w', (∃ ub uc, u' = .slice ub (xs.length + 1) uc) → RowsL (w'.setCell ⟨g, xss.length, none⟩ u') B (w'.setCell ⟨g, xss.length, none⟩ u').heap.size (.slice (some ⟨g, 0, none⟩) n cap) (xss ++ [xs ++ [y]]) → (∃ old, w'.cell? ⟨g, xss.length, none⟩ = some old) → w'.frozen? ⟨g, xss.length, none⟩ = false →
      Below B w (w'.setCell ⟨g, xss.length, none⟩ u') → KeepIt w (w'.setCell ⟨g, xss.length, none⟩ u') → wpList Try.prog ops Q rest (a.put o.dst u') w') :
    wpList Try.prog ops Q (o :: rest) a (w.alloc (.cells #[.int .i64 y] T)) := by
  obtain ⟨i0, hi, hz0, hz1, hz2⟩ := info_parts Try.infoInt
  obtain ⟨us, e, hown, h1, h2, hr, hd⟩ := h
  obtain ⟨m, hm⟩ : ∃ m, xss.length = m := ⟨_, rfl⟩
  have ln : (xss ++ [xs]).length = m + 1 := by rw [List.length_append, hm]; rfl
  rw [hm] at hc hK
  rw [ln] at e hown hr hd
  obtain rfl : n = m + 1 := by
    rcases hown.2 with ⟨e3, _⟩ | ⟨_, _, _, e3, _⟩
    · cases e3
    · simp only [Value.slice.injEq] at e3; exact e3.2.1
  have eu : us.getD m undef = u := by
    rw [hown.cellAt m (by omega)] at hc
    simp [List.getD, hc]
  have gx : (xss ++ [xs]).getD m [] = xs := by rw [← hm]; simp [List.getD]
  have hu := hr m (by omega)
  rw [eu, gx] at hu
  have gB := World.ownsRow.lt hown g rfl
  refine wpList_plain hgd fun K hK' => wp_append_at _ s x 28 ho B 2 i0 (.int .i64 0) 1 8 Try.underlying28 hi hz0 hz1 hz2 rfl (by decide) u xs.length _ hs (hu.1.alloc _) ⟨w.heap.size, 0, none⟩ 1 1 [.int .i64 y] hx rfl ?c1 ?c2 ?c3 ?c4 ?c5 ?_
  case c1 =>
    intro j z hj
    match j, hj with
    | 0, hj => simp at hj; subst hj; simp [Addr.add]
  case c2 => intro z hz; simp at hz; subst hz; rfl
  case c3 => unfold maxLen; omega
  case c4 => omega
  case c5 => simp; omega
  intro u' w' h' hg hat
  have sz : w.heap.size ≤ w'.heap.size := by have := hg.size; simp only [World.size_alloc] at this; omega
  have ug : u.ownBlock ≠ some g := typ_apart hown hu.1 (by decide) rfl
  have old : ∀ k, k < w.heap.size → u.ownBlock ≠ some k → u'.ownBlock ≠ some k := fun k lt hk e3 => by
    rcases hat with e4 | e4
    · exact hk (e4.symm.trans e3)
    · rw [e4] at e3
      simp only [Option.some.injEq, World.size_alloc] at e3
      omega
  have ug' := old g gB.2 ug
  have kp : ∀ k, k < w.heap.size → u.ownBlock ≠ some k → w'.heap[k]? = w.heap[k]? := fun k lt hk =>
    (hg.block k (by simp only [World.size_alloc]; omega) (fun e2 => hk e2.symm)).trans (Below.heap_alloc _ _ _ lt)
  have hown' : w'.ownsRow B 28 1 (.slice (some ⟨g, 0, none⟩) (m + 1) cap) (m + 1) us := ownsRow_of_block hown (fun k ek => by
    simp only [Value.ownBlock, Option.some.injEq] at ek
    subst ek
    exact kp g gB.2 ug)
  have st := (hown'.stored m u').1
  have sb : ∀ k, k ≠ g → (w'.setCell ⟨g, m, none⟩ u').heap[k]? = w'.heap[k]? := fun k hk => Below.heap_setCell w' ⟨g, m, none⟩ u' k hk
  have sz2 : (w'.setCell ⟨g, m, none⟩ u').heap.size = w'.heap.size := by simp [World.setCell]
  have hIu : IntsL (w'.setCell ⟨g, m, none⟩ u') B (w'.setCell ⟨g, m, none⟩ u').heap.size u' (xs ++ [y]) := by
    refine ⟨?_, fun k ek => by rw [sz2]; exact (World.ownsRow.lt h' k ek).2, Nat.le_refl _⟩
    unfold Ints
    rw [List.length_append, List.map_append]
    exact ownsRow_of_block h' (fun k ek => sb k (fun e2 => ug' (e2 ▸ ek)))
  have g1 : ∀ i, i < m → (us.set m u').getD i undef = us.getD i undef := fun i hi => by simp [List.getD, show m ≠ i by omega]
  have g2 : (us.set m u').getD m undef = u' := by simp [List.getD, show m < us.length by omega]
  have g3 : ∀ i, i < m → (xss ++ [xs ++ [y]]).getD i [] = (xss ++ [xs]).getD i [] := fun i hi => by simp [List.getD, List.getElem?_append_left (show i < xss.length by omega)]
  have g4 : (xss ++ [xs ++ [y]]).getD m [] = xs ++ [y] := by rw [← hm]; simp [List.getD]
  have ln2 : (xss ++ [xs ++ [y]]).length = m + 1 := by rw [List.length_append, hm]; rfl
  have ne : ∀ i, i < m → ∀ k, (us.getD i undef).ownBlock = some k → u.ownBlock ≠ some k := fun i hi k ek e3 => by
    have := hd i m hi (by omega)
    rw [eu, ek, e3] at this
    rcases this with t | t
    · cases t
    · exact t rfl
  refine hK' _ _ (hK u' w' (by
    rcases h'.2 with ⟨_, h2⟩ | ⟨g', cap', cur, rfl, _⟩
    · omega
    · exact ⟨_, _, rfl⟩) ⟨us.set m u', by rw [List.length_set, ln2, e], by rw [ln2]; exact st, fun k ek => by simp only [Value.ownBlock, Option.some.injEq] at ek; subst ek; rw [sz2]; exact Nat.lt_of_lt_of_le gB.2 sz, Nat.le_refl _, fun j hj => ?_, fun i j hij hj => ?_⟩ ?_ (hown'.frozenAt m) ?_ ?_)
  · rw [ln2] at hj
    by_cases c : j = m
    · subst c
      rw [g2, g4]
      exact hIu
    · have hj' : j < m := by omega
      rw [g1 j hj', g3 j hj']
      have hz := hr j (by omega)
      refine ⟨ownsRow_of_block hz.1 (fun k ek => ?_), fun k ek => by rw [sz2]; have := (World.ownsRow.lt hz.1 k ek).2; omega, Nat.le_refl _⟩
      have lt := (World.ownsRow.lt hz.1 k ek).2
      exact (sb k (fun e2 => typ_apart hown hz.1 (by decide) rfl (e2 ▸ ek))).trans (kp k lt (ne j hj' k ek))
  · rw [ln2] at hj
    by_cases c : j = m
    · subst c
      rw [g1 i hij, g2]
      cases k1 : (us.getD i undef).ownBlock with
      | none => exact .inl rfl
      | some k =>
        right
        intro k2
        have hz := hr i (by omega)
        exact old k (World.ownsRow.lt hz.1 k k1).2 (ne i hij k k1) k2.symm
    · rw [g1 i (by omega), g1 j (by omega)]
      exact hd i j hij (by omega)
  · rw [hown'.cellAt m (by omega), List.getElem?_eq_getElem (by omega)]; exact ⟨_, rfl⟩
  · have b1 : Below B w w' := ((Below.refl _ _).alloc hB _).grown hg (by simp; omega) (fun k hk => (World.ownsRow.lt hu.1 k hk).1)
    exact b1.trans ⟨rfl, rfl, rfl, by rw [sz2]; exact Nat.le_refl _, fun k hk => sb k (by omega)⟩
  · intro k s p hk
    have lt : k < w.heap.size := (Array.getElem?_eq_some_iff.1 hk).1
    exact (sb k (fun e2 => it_apart hown hk (by rw [e2]; rfl))).trans ((kp k lt (it_apart hu.1 hk)).trans hk)
end Go.Proofs.Ytaipgfahkpnooaa
