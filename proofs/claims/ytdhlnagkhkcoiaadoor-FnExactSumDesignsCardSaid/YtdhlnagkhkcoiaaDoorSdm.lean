/- SumDesigns: the model's. -/
import Derived.Test.YtdhlnagkhkcoiaaDoorSdi
import Derived.Test.YtdhlnagkhkcoiaaDoorDok
import Derived.Laws.AppendOwnNone
namespace Go.Proofs.YtdhlnagkhkcoiaaDoor
open Go.RowKit Go.Shelf
set_option linter.unusedVariables false
set_option linter.unusedSimpArgs false

/-- Slices of the call's own, whatever they hold. -/
def Vs (w : World) (B : Nat) (v : Value) (us : List Value) : Prop := w.ownsRow B 60 1 v us.length us
theorem IntsC.one {w : World} {u : Value} {xs : List Int} (h : IntsC w u xs) : u.oneCell' = true := by
  obtain ⟨a, cap, rfl, -⟩ := h.part
  rfl
theorem vals_of {w : World} {g off n : Nat} {xss : List (List Int)} (h : ∀ j, j < n → ∃ u, w.cell? ⟨g, off + j, none⟩ = some u ∧ IntsC w u (xss.getD j [])) :
    ∃ us : List Value, us.length = n ∧ ∀ j, j < n → w.cell? ⟨g, off + j, none⟩ = some (us.getD j undef) ∧ IntsC w (us.getD j undef) (xss.getD j []) := by
  refine ⟨(List.range n).map (fun j => (w.cell? ⟨g, off + j, none⟩).getD undef), by simp, fun j hj => ?_⟩
  obtain ⟨u, h1, h2⟩ := h j hj
  have e : ((List.range n).map (fun j => (w.cell? ⟨g, off + j, none⟩).getD undef)).getD j undef = u := by
    simp [List.getD, hj, h1]
  rw [e]
  exact ⟨h1, h2⟩
theorem Vs.rows {w : World} {B : Nat} {v : Value} {us : List Value} {xss : List (List Int)} (h : Vs w B v us) (hl : us.length = xss.length) (hr : ∀ j, j < xss.length → IntsC w (us.getD j undef) (xss.getD j [])) : RowsAt w v xss := by
  have h' := h
  unfold Vs at h h'
  obtain ⟨h1, ⟨rfl, h2⟩ | ⟨g, cap, cur, rfl, h3, h4, h5, h6, h7, h8⟩⟩ := h
  · have : xss = [] := List.length_eq_zero_iff.1 (by omega)
    subst this
    exact RowsAt.nil _ _ _
  · rw [hl] at h5 ⊢
    refine ⟨by unfold maxLen at h6; omega, _, _, rfl, h5, fun j hj => ⟨g, 0, us.getD j undef, rfl, ?_, hr j hj⟩⟩
    rw [Nat.zero_add, h'.cellAt j (by omega)]
    simp [List.getD, List.getElem?_eq_getElem (show j < us.length by omega)]
theorem wp_extV {o : Oper} {a : Act} {K : Act → World → Prop} {Q : Exit → Act → World → Prop} (w : World) (s x : Operand)
    (ho : o.op = .call { callee := .builtin .append, args := #[s, x], argTypes := #[22, 22] })
    (B : Nat) (v : Value) (us : List Value) (hs : a.eval s = v) (h : Vs w B v us) (y : Value) (vs : List Value) (m : Nat) (hm : vs.length = m)
    (hy : (y = .slice none 0 0 ∧ m = 0) ∨ ∃ g off c, y = .slice (some ⟨g, off, none⟩) m c ∧ ∀ j, j < m → w.cell? ⟨g, off + j, none⟩ = some (vs.getD j undef) ∧ (vs.getD j undef).oneCell' = true) (hx : a.eval x = y)
    (hl : us.length < 1000000000) (hml : m < 1000000000) (hB : B ≤ w.heap.size)
    (hK : ∀ v' w', Vs w' B v' (us ++ vs) → Below B w w' → K (a.put o.dst v') w') :
    o.wp Tryd.prog a w K Q := by
  obtain ⟨i0, hi, hz0, hz1, hz2⟩ := info_parts Tryd.infoRow
  rcases hy with ⟨rfl, rfl⟩ | ⟨g, off, c, rfl, hc⟩
  · have hv : vs = [] := List.length_eq_zero_iff.1 hm
    subst hv
    have hrun := run_append_owned_none (P := Tryd.prog) (w := w) B 22 o.type 60 i0 1 Tryd.underlying22 hi v us.length us h
    have hk := hK v w (by rw [List.append_nil]; exact h) (Below.refl _ _)
    unfold Oper.wp
    simp [execOp, ho, resolve, invoke, builtin, hs, hx, hrun, Result.andThen]
    exact hk
  · refine wp_append_own w s x 22 ho B 60 i0 (.slice none 0 0) 1 24 Tryd.underlying22 hi hz0 hz1 hz2 rfl (by decide) v us.length us hs h ⟨g, off, none⟩ m c vs hx (by omega) ?c1 ?c2 ?c3 ?c4 hB ?_
    case c1 =>
      intro j u hj
      have hjm : j < m := by
        by_cases d : j < m
        · exact d
        · rw [List.getElem?_eq_none (by omega)] at hj; cases hj
      obtain ⟨q, -⟩ := hc j hjm
      have e : vs.getD j undef = u := by rw [List.getD_eq_getElem?_getD, hj]; rfl
      rw [e] at q
      by_cases d : j = 0
      · subst d; simpa [Addr.add] using q
      · simpa [Addr.add, d] using q
    case c2 =>
      intro u hu
      obtain ⟨j, hj, rfl⟩ := List.mem_iff_getElem.1 hu
      obtain ⟨-, q⟩ := hc j (by omega)
      rwa [List.getD_eq_getElem?_getD, List.getElem?_eq_getElem hj] at q
    case c3 => unfold maxLen; omega
    case c4 => omega
    intro v' w' h' hg _
    refine hK v' w' ?_ ((Below.refl _ _).grown hg hB (fun k hk => (World.ownsRow.lt h k hk).1))
    unfold Vs
    rw [List.length_append, hm]
    exact h'

set_option maxRecDepth 100000 in
set_option maxHeartbeats 4000000 in
theorem sSumDesigns (n : Int) (xs : List (List Int)) (n2 : Int) (ys : List (List Int)) (w : World) (v u : Value) (hv : RowsAt w v xs) (hu : RowsAt w u ys)
    (hvn : v = .slice none 0 0 ∨ ∃ g off l c, v = .slice (some ⟨g, off, none⟩) l c) (hun : u = .slice none 0 0 ∨ ∃ g off l c, u = .slice (some ⟨g, off, none⟩) l c) :
    Calls Tryd.prog 26 #[.agg #[.int .i64 n, v], .agg #[.int .i64 n2, u]] w fun e w' => ∃ z, e = .returned (.tuple #[.agg #[.int .i64 (SumDesigns_N n xs n2 ys), z], .int .i64 (SumDesigns_C n xs n2 ys)]) ∧ RowsL w' w.heap.size w'.heap.size z (SumDesigns_L n xs n2 ys) ∧ Below w.heap.size w w' := by
  -- the blocks as values
  have VAL : ∀ (v : Value) (xs : List (List Int)), RowsAt w v xs → (v = .slice none 0 0 ∨ ∃ g off l c, v = .slice (some ⟨g, off, none⟩) l c) → ∃ us : List Value, us.length = xs.length ∧ (∀ j, j < xs.length → IntsC w (us.getD j undef) (xs.getD j [])) ∧
      ∀ W, Below w.heap.size w W → (v = .slice none 0 0 ∧ xs.length = 0) ∨ ∃ g off c, v = .slice (some ⟨g, off, none⟩) xs.length c ∧ ∀ j, j < xs.length → W.cell? ⟨g, off + j, none⟩ = some (us.getD j undef) ∧ (us.getD j undef).oneCell' = true := fun v xs hv hn => by
    obtain ⟨-, a, cap, rfl, -, hc⟩ := hv
    rcases hn with e | ⟨g, off, l, c, e⟩
    · simp only [Value.slice.injEq] at e
      obtain ⟨rfl, e2, rfl⟩ := e
      refine ⟨[], by simp [e2], fun j hj => by omega, fun W _ => .inl ⟨by rw [e2], e2⟩⟩
    · simp only [Value.slice.injEq] at e
      obtain ⟨rfl, e2, rfl⟩ := e
      obtain ⟨us, h1, h2⟩ := vals_of (w := w) (g := g) (off := off) (n := xs.length) (xss := xs) (fun j hj => by
        obtain ⟨g', off', u, e3, h2, h3⟩ := hc j hj
        simp only [Option.some.injEq, Addr.mk.injEq, and_true] at e3
        obtain ⟨rfl, rfl⟩ := e3
        exact ⟨u, h2, h3⟩)
      refine ⟨us, h1, fun j hj => (h2 j hj).2, fun W hW => .inr ⟨g, off, cap, rfl, fun j hj => ⟨?_, (h2 j hj).2.one⟩⟩⟩
      have := (h2 j hj).1
      exact (hW.cell (p := ⟨g, off + j, none⟩) (World.block_lt_of_cell? w _ this)).trans this
  obtain ⟨us, hus1, hus2, hus3⟩ := VAL v xs hv hvn
  obtain ⟨vs, hvs1, hvs2, hvs3⟩ := VAL u ys hu hun
  clear VAL hvn hun
  obtain ⟨va, cap, rfl, -⟩ := hv.shape
  obtain ⟨ua, cap2, rfl, -⟩ := hu.shape
  obtain ⟨m, hm⟩ : ∃ m, xs.length = m := ⟨_, rfl⟩
  obtain ⟨m2, hm2⟩ : ∃ m, ys.length = m := ⟨_, rfl⟩
  rw [hm] at hv hus3 ⊢
  rw [hm2] at hu hvs3 ⊢
  obtain ⟨B, hB⟩ : ∃ B, w.heap.size = B := ⟨_, rfl⟩
  obtain ⟨w1, hw1⟩ : ∃ w1, w.alloc (.cells #[.int .i64 n, .slice va m cap] 27) = w1 := ⟨_, rfl⟩
  have z1 : w1.heap.size = B + 1 := by rw [← hw1, World.size_alloc, hB]
  have b1 : Below B w w1 := by rw [← hw1]; exact (Below.refl _ _).alloc (by omega) _
  have A1 : w1.heap[B]? = some (.cells #[.int .i64 n, .slice va m cap] 27 (0, 0)) := by rw [← hw1, ← hB]; exact heap_alloc_new _ _
  obtain ⟨w2, hw2⟩ : ∃ w2, w1.alloc (.cells #[.int .i64 n2, .slice ua m2 cap2] 27) = w2 := ⟨_, rfl⟩
  have z2 : w2.heap.size = B + 2 := by rw [← hw2, World.size_alloc, z1]
  have b12 : Below (B + 1) w1 w2 := by rw [← hw2]; exact (Below.refl _ _).alloc (Nat.le_of_eq z1.symm) _
  have A2 : w2.heap[B + 1]? = some (.cells #[.int .i64 n2, .slice ua m2 cap2] 27 (0, 0)) := by rw [← hw2, ← z1]; exact heap_alloc_new _ _
  obtain ⟨w3, hw3⟩ : ∃ w3, w2.alloc (.cells #[.int .i64 0, .slice none 0 0] 27) = w3 := ⟨_, rfl⟩
  have z3 : w3.heap.size = B + 3 := by rw [← hw3, World.size_alloc, z2]
  have b23 : Below (B + 2) w2 w3 := by rw [← hw3]; exact (Below.refl _ _).alloc (Nat.le_of_eq z2.symm) _
  have A3 : w3.heap[B + 2]? = some (.cells #[.int .i64 0, .slice none 0 0] 27 (0, 0)) := by rw [← hw3, ← z2]; exact heap_alloc_new _ _
  have b3 : Below B w w3 := (b1.trans (b12.mono (by omega))).trans (b23.mono (by omega))
  have q1 := (b23.block B (by omega)).trans ((b12.block B (by omega)).trans A1)
  have q2 := (b23.block (B + 1) (by omega)).trans A2
  have HB := Lib.hid hB
  obtain ⟨K, hK⟩ : ∃ K : World → Prop, K = fun W => Below (B + 3) w3 W := ⟨_, rfl⟩
  have K3 : Hid (K w3) := by rw [hK]; exact Below.refl _ _
  have KN : Hid (∀ W W', K W → Below W.heap.size W W' → K W') := fun W W' h bb => by
    rw [hK] at h ⊢
    exact h.trans (bb.mono (by have := h.size; omega))
  have KS : Hid (∀ W W' W'', K W → K W' → Below W.heap.size W' W'' → K W'') := fun W W' W'' h h' bb => by
    rw [hK] at h h' ⊢
    exact h'.trans (bb.mono (by have := h.size; omega))
  have KO : Hid (∀ W, K W → (W.cell? ⟨B, 0, none⟩ = some (.int .i64 n) ∧ W.cell? ⟨B, 1, none⟩ = some (.slice va m cap)) ∧ (W.cell? ⟨B + 1, 0, none⟩ = some (.int .i64 n2) ∧ W.cell? ⟨B + 1, 1, none⟩ = some (.slice ua m2 cap2)) ∧ W.heap[B + 2]? = some (.cells #[.int .i64 0, .slice none 0 0] 27 (0, 0)) ∧ Below B w W ∧ B + 3 ≤ W.heap.size) := fun W h => by
    rw [hK] at h
    exact ⟨cells2S W B _ _ _ ((h.block B (by omega)).trans q1), cells2S W (B + 1) _ _ _ ((h.block (B + 1) (by omega)).trans q2), (h.block (B + 2) (by omega)).trans A3, b3.trans (h.mono (by omega)), by have := h.size; omega⟩
  have KV : Hid (∀ W, K W → RowsAt W (.slice va m cap) xs ∧ RowsAt W (.slice ua m2 cap2) ys) := fun W h => by
    rw [hK] at h
    have bb := b3.trans (h.mono (by omega))
    exact ⟨hv.below bb (by omega), hu.below bb (by omega)⟩
  have EN : Hid (∀ (W : World) (cd : Int), K W → SumDesigns_N n xs n2 ys = 0 ∧ SumDesigns_L n xs n2 ys = [] ∧ SumDesigns_C n xs n2 ys = cd → ∀ (tmps : Array Value), tmps.getD 4 undef = .pointer (some ⟨B + 2, 0, none⟩) → tmps.getD 5 undef = .int .i64 cd →
      bodyPost Tryd.prog Tryd.f26 (fun e w' => ∃ z, e = .returned (.tuple #[.agg #[.int .i64 (SumDesigns_N n xs n2 ys), z], .int .i64 (SumDesigns_C n xs n2 ys)]) ∧ RowsL w' w.heap.size w'.heap.size z (SumDesigns_L n xs n2 ys) ∧ Below w.heap.size w w') Exit.ret { tmps := tmps, defers := [] } ((W.setCell ⟨B + 2, 0, none⟩ (.int .i64 0)).setCell ⟨B + 2, 1, none⟩ (.slice none 0 0))) := fun W cd hk hf tmps t2 t3 => by
    obtain ⟨-, -, q2, q3, -⟩ := KO.out W hk
    refine endsD (fn := Tryd.f26) (i := 4) (j := 5) rfl W (B + 2) _ _ q2 _ _ _ _ ⟨.slice none 0 0, by rw [hf.1, hf.2.2], ?_, ?_⟩ tmps t2 t3
    · rw [hf.2.1]; exact RowsL.nil _ _ _ (Nat.le_refl _)
    · rw [HB.out]
      exact (q3.setCell (p := ⟨B + 2, 0, none⟩) (by show B ≤ B + 2; omega) _).setCell (p := ⟨B + 2, 1, none⟩) (by show B ≤ B + 2; omega) _
  have EY : Hid (∀ (W' : World) (J : Nat) (ay : Option Addr) (ly cy : Nat), K W' → B + 3 ≤ J → sumOk n xs n2 ys = true → n = n2 → RowsL W' J W'.heap.size (.slice ay ly cy) (dxL (xs ++ ys)) → ∀ (tmps : Array Value), tmps.getD 4 undef = .pointer (some ⟨B + 2, 0, none⟩) → tmps.getD 5 undef = .int .i64 (dxC (xs ++ ys)) →
      bodyPost Tryd.prog Tryd.f26 (fun e w' => ∃ z, e = .returned (.tuple #[.agg #[.int .i64 (SumDesigns_N n xs n2 ys), z], .int .i64 (SumDesigns_C n xs n2 ys)]) ∧ RowsL w' w.heap.size w'.heap.size z (SumDesigns_L n xs n2 ys) ∧ Below w.heap.size w w') Exit.ret { tmps := tmps, defers := [] } ((W'.setCell ⟨B + 2, 0, none⟩ (.int .i64 (dxN n (xs ++ ys)))).setCell ⟨B + 2, 1, none⟩ (.slice ay ly cy))) := fun W' J ay ly cy hk' hJ ha hp hL tmps t2 t3 => by
    obtain ⟨-, -, q2, q3, -⟩ := KO.out W' hk'
    obtain ⟨v1, v2, v3⟩ := sum_ok ha hp
    refine endsD (fn := Tryd.f26) (i := 4) (j := 5) rfl W' (B + 2) _ _ q2 _ _ _ _ ⟨.slice ay ly cy, by rw [v1, v3], ?_, ?_⟩ tmps t2 t3
    · rw [v2]
      exact (RowsL.off2 hL (show B + 2 < J by omega) _ _).mono (by have := HB.out; omega) (by simp [World.setCell]) (Nat.le_refl _)
    · rw [HB.out]
      exact (q3.setCell (p := ⟨B + 2, 0, none⟩) (by show B ≤ B + 2; omega) _).setCell (p := ⟨B + 2, 1, none⟩) (by show B ≤ B + 2; omega) _
  have HO := Lib.hid (fun W (h : K W) => sOk n xs W _ B (KO.out W h).1.1 (KO.out W h).1.2 (KV.out W h).1)
  have HO2 := Lib.hid (fun W (h : K W) => sOk n2 ys W _ (B + 1) (KO.out W h).2.1.1 (KO.out W h).2.1.2 (KV.out W h).2)
  have KD : Hid (∀ W d, K W → K (W.drewN d)) := fun W d h => KN.out W _ h (below_drewN (Below.refl _ _) d)
  have EXA := Lib.hid (fun W (h : K W) => hus3 W (by rw [hB]; exact (KO.out W h).2.2.2.1))
  have EXB := Lib.hid (fun W (h : K W) => hvs3 W (by rw [hB]; exact (KO.out W h).2.2.2.1))
  have INT : Hid (∀ W, K W → ∀ j, j < (xs ++ ys).length → IntsC W ((us ++ vs).getD j undef) ((xs ++ ys).getD j [])) := fun W h j hj => by
    have bb := (KO.out W h).2.2.2.1
    by_cases c : j < xs.length
    · rw [List.getD_eq_getElem?_getD, List.getElem?_append_left (by omega), ← List.getD_eq_getElem?_getD, List.getD_eq_getElem?_getD (l := xs ++ ys), List.getElem?_append_left c, ← List.getD_eq_getElem?_getD]
      exact (hus2 j c).below bb (by omega)
    · rw [List.length_append] at hj
      rw [List.getD_eq_getElem?_getD, List.getElem?_append_right (by omega), ← List.getD_eq_getElem?_getD, List.getD_eq_getElem?_getD (l := xs ++ ys), List.getElem?_append_right (by omega), ← List.getD_eq_getElem?_getD, hus1]
      exact (hvs2 (j - xs.length) (by omega)).below bb (by omega)
  have LEN : Hid ((us ++ vs).length = (xs ++ ys).length) := by unfold Hid; rw [List.length_append, List.length_append, hus1, hvs1]
  have VN : Hid (sumOk n xs n2 ys = false → SumDesigns_N n xs n2 ys = 0 ∧ SumDesigns_L n xs n2 ys = [] ∧ SumDesigns_C n xs n2 ys = 1) := sum_no
  have VS : Hid (sumOk n xs n2 ys = true → ¬ n = n2 → SumDesigns_N n xs n2 ys = 0 ∧ SumDesigns_L n xs n2 ys = [] ∧ SumDesigns_C n xs n2 ys = 6) := sum_state
  obtain ⟨⟨c0, c1⟩, ⟨c2, c3⟩, -⟩ := KO.out _ K3.out
  have LU : us.length = m := by omega
  have LV : vs.length = m2 := by omega
  have HM := Lib.hid hm
  have HM2 := Lib.hid hm2
  have hml := hv.1
  rw [hm] at hml
  clear hv hu hK A1 b1 A2 b12 b23 b3 A3 q1 q2 hus1 hvs1 hus2 hvs2 hus3 hvs3 hm hm2 z3
  cases ho1 : desB n xs with
  | false =>
    have V := Lib.hid (VN.out (by unfold sumOk; rw [ho1]; rfl))
    simp only [ho1] at HO
    clear ho1
    go_enter Tryd.func26, Tryd.ntmps26
    go_wp2_with fail
    try rw [hw1]
    try rw [z1]
    try rw [hw2]
    try rw [z2]
    try rw [hw3]
    try rw [hB]
    refine (HO.out _ K3.out).mono ?_
    rintro e w4 ⟨rfl, d, rfl⟩
    have K4 := Lib.hid (KD.out _ d K3.out)
    obtain ⟨-, -, r4, -, -⟩ := KO.out _ K4.out
    obtain ⟨d0, d1, f0, f1⟩ := cells2 _ (B + 2) _ _ _ r4
    clear r4 c0 c1 c2 c3
    go_wp2
    exact EN.out _ 1 K4.out V.out _ rfl rfl
  | true =>
    simp only [ho1] at HO
    have OO1 := Lib.hid ho1
    clear ho1
    cases ho2 : desB n2 ys with
    | false =>
      have V := Lib.hid (VN.out (by unfold sumOk; rw [ho2, Bool.and_false]))
      simp only [ho2] at HO2
      clear ho2
      go_enter Tryd.func26, Tryd.ntmps26
      go_wp2_with fail
      try rw [hw1]
      try rw [z1]
      try rw [hw2]
      try rw [z2]
      try rw [hw3]
      try rw [hB]
      refine (HO.out _ K3.out).mono ?_
      rintro e w4 ⟨rfl, d, rfl⟩
      have K4 := Lib.hid (KD.out _ d K3.out)
      clear c0 c1 c2 c3
      go_wp2_with fail
      refine (HO2.out _ K4.out).mono ?_
      rintro e w5 ⟨rfl, d2, rfl⟩
      have K5 := Lib.hid (KD.out _ d2 K4.out)
      obtain ⟨w5, hw5⟩ : ∃ w5, (w3.drewN d).drewN d2 = w5 := ⟨_, rfl⟩
      rw [hw5] at K5
      rw [hw5]
      clear hw5
      obtain ⟨-, -, r5, -, -⟩ := KO.out _ K5.out
      obtain ⟨d0, d1, f0, f1⟩ := cells2 _ (B + 2) _ _ _ r5
      clear r5
      go_wp2
      exact EN.out _ 1 K5.out V.out _ rfl rfl
    | true =>
      simp only [ho2] at HO2
      have OK := Lib.hid (show sumOk n xs n2 ys = true by unfold sumOk; rw [OO1.out, ho2]; rfl)
      have D1 := of_desB OO1.out
      have D2 := of_desB ho2
      have n1 := D1.1
      have n32 := D1.2.1
      have M1 : m ≤ 128 := by have := D1.2.2.1; have := HM.out; omega
      have M2 : m2 ≤ 128 := by have := D2.2.2.1; have := HM2.out; omega
      have RI : Hid (n = n2 → anyE (xs ++ ys) = false ∧ ∀ i, i < (xs ++ ys).length → Rises 0 (n - 1) ((xs ++ ys).getD i []) ∧ ((xs ++ ys).getD i []).length ≤ 1048576) := fun e => by
        have key : ∀ {zs : List (List Int)}, Des n zs → ∀ i, i < zs.length → 0 < (zs.getD i []).length ∧ Rises 0 (n - 1) (zs.getD i []) ∧ (zs.getD i []).length ≤ 1048576 := fun {zs} d i hi => by
          have hb := (d.2.2.2 i hi).1
          refine ⟨hb.1, hb.2, ?_⟩
          have := blk_len (n := n) n32 hb.2
          omega
        have both : ∀ i, i < (xs ++ ys).length → 0 < ((xs ++ ys).getD i []).length ∧ Rises 0 (n - 1) ((xs ++ ys).getD i []) ∧ ((xs ++ ys).getD i []).length ≤ 1048576 := fun i hi => by
          by_cases c : i < xs.length
          · rw [List.getD_eq_getElem?_getD, List.getElem?_append_left c, ← List.getD_eq_getElem?_getD]
            exact key D1 i c
          · rw [List.length_append] at hi
            rw [List.getD_eq_getElem?_getD, List.getElem?_append_right (by omega), ← List.getD_eq_getElem?_getD]
            exact key (by rw [e]; exact D2) (i - xs.length) (by omega)
        refine ⟨any_none fun l hl => ?_, fun i hi => (both i hi).2⟩
        obtain ⟨i, hi, rfl⟩ := List.mem_iff_getElem.1 hl
        have := (both i hi).1
        rw [List.getD_eq_getElem?_getD, List.getElem?_eq_getElem hi] at this
        intro e2
        rw [show ((some (xs ++ ys)[i]).getD [] : List Int) = (xs ++ ys)[i] from rfl, e2] at this
        simp at this
      clear ho2 D1 D2
      by_cases en : n = n2
      · have t1 : (n != n2) = false := by simpa using en
        obtain ⟨RE, RR⟩ := RI.out en
        have DM := dx_mk (n := n) (by omega) (by omega) RE (fun i hi => (RR i hi).1)
        have HMK := Lib.hid (fun W v (h : RowsAt W v (xs ++ ys)) => by
          have := sMake n (by omega) (by omega) (xs ++ ys) (by rw [List.length_append]; have := HM.out; have := HM2.out; omega) (fun i hi => (RR i hi).2) W v h
          rwa [DM.1, DM.2.1, DM.2.2] at this)
        have EQ := Lib.hid en
        clear RE RR DM en RI
        go_enter Tryd.func26, Tryd.ntmps26
        go_wp2_with fail
        try rw [hw1]
        try rw [z1]
        try rw [hw2]
        try rw [z2]
        try rw [hw3]
        try rw [hB]
        refine (HO.out _ K3.out).mono ?_
        rintro e w4 ⟨rfl, d, rfl⟩
        have K4 := Lib.hid (KD.out _ d K3.out)
        clear c0 c1 c2 c3
        go_wp2_with fail
        refine (HO2.out _ K4.out).mono ?_
        rintro e w5 ⟨rfl, d2, rfl⟩
        have K5 := Lib.hid (KD.out _ d2 K4.out)
        obtain ⟨w5, hw5⟩ : ∃ w5, (w3.drewN d).drewN d2 = w5 := ⟨_, rfl⟩
        rw [hw5] at K5
        rw [hw5]
        obtain ⟨⟨c0, c1⟩, ⟨c2, c3⟩, -, -, s5⟩ := KO.out _ K5.out
        obtain ⟨w6, hw6⟩ : ∃ w6, w5.alloc (.cells #[] 60) = w6 := ⟨_, rfl⟩
        have b56 : Below w5.heap.size w5 w6 := by rw [← hw6]; exact (Below.refl _ _).alloc (Nat.le_refl _) _
        have V6 : Hid (Vs w6 w5.heap.size (.slice (some ⟨w5.heap.size, 0, none⟩) 0 0) []) := by
          have := World.ownsRow_made (e := 60) (size := 1) w5 #[] 0 (Nat.le_refl _) (by decide) rfl
          rw [hw6] at this
          exact this
        have K6 := Lib.hid (KN.out _ _ K5.out b56)
        have s6 : w5.heap.size ≤ w6.heap.size := b56.size
        have XA := Lib.hid (EXA.out w6 K6.out)
        obtain ⟨⟨y0, y1⟩, ⟨y2, y3⟩, -⟩ := KO.out _ K6.out
        clear hw5 b56
        obtain ⟨J, hJ⟩ : ∃ J, w5.heap.size = J := ⟨_, rfl⟩
        rw [hJ] at V6 s5 s6
        have us0 : ([] : List Value).length < 1000000000 := by simp
        have ul : us.length < 1000000000 := by omega
        have ml : m < 1000000000 := by omega
        have ml2 : m2 < 1000000000 := by omega
        go_wp2_with (at_builtin; (refine wpList_plain (by rfl) fun Kc hKc => wp_extV w6 _ _ (by rfl) J _ [] (by rfl) V6.out _ us m LU XA.out (by rfl) us0 ml s6 ?_; intro v7 w7 h7 b7; refine hKc _ _ ?_; have V7 := Lib.hid h7; have K7 : Hid (K w7) := KS.out _ _ _ K5.out K6.out (by rw [hJ]; exact b7); have s7 : J ≤ w7.heap.size := Nat.le_trans s6 b7.size; have e7 := KO.out _ K7.out; have e70 := e7.1.1; have e71 := e7.2.1.2; have XB := Lib.hid (EXB.out w7 K7.out); clear h7 b7 e7))
        have DS : Hid (∀ W, K W → W.cell? ⟨B, 0, none⟩ = some (.int .i64 n) ∧ W.cell? ⟨B + 1, 1, none⟩ = some (.slice ua m2 cap2)) := fun W h => ⟨(KO.out W h).1.1, (KO.out W h).2.1.2⟩
        have FAR : Hid (∀ W, K W → ∀ a b, ((W.setCell ⟨B + 2, 0, none⟩ a).setCell ⟨B + 2, 1, none⟩ b).cell? ⟨B, 0, none⟩ = some (.int .i64 n) ∧ ((W.setCell ⟨B + 2, 0, none⟩ a).setCell ⟨B + 2, 1, none⟩ b).cell? ⟨B + 1, 1, none⟩ = some (.slice ua m2 cap2)) := fun W h a b => by
          obtain ⟨x0, x1⟩ := DS.out W h
          refine ⟨?_, ?_⟩
          · rw [World.cell?_setCell_far _ _ _ _ (show B + 2 ≠ B by omega), World.cell?_setCell_far _ _ _ _ (show B + 2 ≠ B by omega)]; exact x0
          · rw [World.cell?_setCell_far _ _ _ _ (show B + 2 ≠ B + 1 by omega), World.cell?_setCell_far _ _ _ _ (show B + 2 ≠ B + 1 by omega)]; exact x1
        have KW : Hid (K w7.drew) := KN.out _ _ K7.out (Below.refl _ _).drew
        clear e70 e71 c0 c1 c2 c3 y0 y1 y2 y3
        refine wp_region_held_drew (S := fun w' => w'.cell? ⟨B, 0, none⟩ = some (.int .i64 n) ∧ w'.cell? ⟨B + 1, 1, none⟩ = some (.slice ua m2 cap2)) (by kernel_rfl) (DS.out _ KW.out) (fun hHeld => ?_)
        refine wpAnyH_take (i := 0) (oi := { dst := some 24, op := Op.fieldAddr 27 (Operand.tmp 2) 0, type := 0, pos := "l10_designs.go:272", after := #[], guard := none }) (v := ?_) rfl (by kernel_rfl) (by kernel_rfl) (by kernel_rfl) (fun _ _ _ h => h) (Or.inl ⟨by rfl, ?_⟩) (by assumption) ?_
        rotate_left
        · intro w hSw; (try dsimp only at hSw); go_simp
          try with_reducible rfl
        simp only [Act.put, List.setIfInBounds_toArray, List.set_cons_zero, List.set_cons_succ]
        refine wpAnyH_take (i := 1) (oi := { dst := some 25, op := Op.load 2 (Operand.tmp 24), type := 2, pos := "l10_designs.go:272", after := #[{ on := 0, ground := Ground.data }], guard := none }) (v := ?_) rfl (by kernel_rfl) (by kernel_rfl) (by kernel_rfl) (fun _ _ _ h => h) (Or.inl ⟨by rfl, ?_⟩) (by assumption) ?_
        rotate_left
        · intro w hSw; (try dsimp only at hSw); go_simp
          try with_reducible rfl
        simp only [Act.put, List.setIfInBounds_toArray, List.set_cons_zero, List.set_cons_succ]
        refine wpAnyH_take (i := 2) (oi := { dst := some 26, op := Op.move (Operand.tmp 6), type := 22, pos := "l10_designs.go:272", after := #[], guard := none }) (v := ?_) rfl (by kernel_rfl) (by kernel_rfl) (by kernel_rfl) (fun _ _ _ h => h) (Or.inl ⟨by rfl, ?_⟩) (by assumption) ?_
        rotate_left
        · intro w hSw; (try dsimp only at hSw); go_simp
          try with_reducible rfl
        simp only [Act.put, List.setIfInBounds_toArray, List.set_cons_zero, List.set_cons_succ]
        refine wpAnyH_take (i := 3) (oi := { dst := some 27, op := Op.fieldAddr 27 (Operand.tmp 3) 1, type := 0, pos := "l10_designs.go:272", after := #[], guard := none }) (v := ?_) rfl (by kernel_rfl) (by kernel_rfl) (by kernel_rfl) (fun _ _ _ h => h) (Or.inl ⟨by rfl, ?_⟩) (by assumption) ?_
        rotate_left
        · intro w hSw; (try dsimp only at hSw); go_simp
          try with_reducible rfl
        simp only [Act.put, List.setIfInBounds_toArray, List.set_cons_zero, List.set_cons_succ]
        refine wpAnyH_take (i := 4) (oi := { dst := some 28, op := Op.load 22 (Operand.tmp 27), type := 22, pos := "l10_designs.go:272", after := #[{ on := 3, ground := Ground.data }], guard := none }) (v := ?_) rfl (by kernel_rfl) (by kernel_rfl) (by kernel_rfl) (fun _ _ _ h => h) (Or.inl ⟨by rfl, ?_⟩) (by assumption) ?_
        rotate_left
        · intro w hSw; (try dsimp only at hSw); go_simp
          try with_reducible rfl
        simp only [Act.put, List.setIfInBounds_toArray, List.set_cons_zero, List.set_cons_succ]
        refine wpAnyH_ready (rs := [5]) (by kernel_rfl) (by simp) ?_
        refine AllReadyH.cons rfl (fun K' hK' => ?_) AllReadyH.nil
        rw [if_pos (by kernel_rfl)]
        refine wp_extV w7.drew _ _ rfl J _ us (by rfl) V7.out _ vs m2 LV XB.out (by rfl) ul ml2 s7 ?_
        intro v8 w8 h8 b8
        have K8 : Hid (K w8) := KS.out _ _ _ K5.out KW.out (by rw [hJ]; exact b8)
        have r8 := Vs.rows h8 LEN.out (INT.out w8 K8.out)
        obtain ⟨a8, c8, rfl, -⟩ := r8.shape
        obtain ⟨l8, hl8⟩ : ∃ l, (xs ++ ys).length = l := ⟨_, rfl⟩
        rw [hl8] at r8 ⊢
        have HM8 := Lib.hid (HMK.out w8 _ r8)
        have s8 : J ≤ w8.heap.size := Nat.le_trans s7 b8.size
        clear h8 b8 r8 hl8
        refine hK'.out _ _ (DS.out _ K8.out) (fun hHeld => ?_)
        clear hK' K'
        refine wpAnyH_ready (rs := [6]) (by kernel_rfl) (by simp) ?_
        refine AllReadyH.cons rfl (fun K' hK' => ?_) AllReadyH.nil
        go_simp
        go_wp2_with fail
        refine HM8.out.mono ?_
        rintro e w9 ⟨z, rfl, hL, b9⟩
        obtain ⟨ay, ly, cy, rfl⟩ : ∃ a l c, z = .slice a l c := by obtain ⟨a, c, e, -⟩ := hL.at.shape; exact ⟨a, _, c, e⟩
        have LX := Lib.hid hL
        have K9 := Lib.hid (KN.out _ _ K8.out b9)
        obtain ⟨-, -, ra, -, sa⟩ := KO.out _ K9.out
        obtain ⟨d0, d1, f0, f1⟩ := cells2 _ (B + 2) _ _ _ ra
        clear hL b9 ra
        refine hK'.out _ _ (DS.out _ K9.out) (fun hHeld => ?_)
        clear hK' K'
        refine wpAnyH_take (i := 7) (oi := { dst := some 31, op := Op.extract (Operand.tmp 30) 0, type := 27, pos := "l10_designs.go:272", after := #[{ on := 6, ground := Ground.data }], guard := none }) (v := ?_) rfl (by kernel_rfl) (by kernel_rfl) (by kernel_rfl) (fun _ _ _ h => h) (Or.inl ⟨by rfl, ?_⟩) (by assumption) ?_
        rotate_left
        · intro w hSw; (try dsimp only at hSw); go_simp
          try with_reducible rfl
        simp only [Act.put, List.setIfInBounds_toArray, List.set_cons_zero, List.set_cons_succ]
        refine wpAnyH_take (i := 8) (oi := { dst := some 32, op := Op.extract (Operand.tmp 30) 1, type := 2, pos := "l10_designs.go:272", after := #[{ on := 6, ground := Ground.data }], guard := none }) (v := ?_) rfl (by kernel_rfl) (by kernel_rfl) (by kernel_rfl) (fun _ _ _ h => h) (Or.inl ⟨by rfl, ?_⟩) (by assumption) ?_
        rotate_left
        · intro w hSw; (try dsimp only at hSw); go_simp
          try with_reducible rfl
        simp only [Act.put, List.setIfInBounds_toArray, List.set_cons_zero, List.set_cons_succ]
        refine wpAnyH_ready (rs := [9]) (by kernel_rfl) (by simp) ?_
        refine AllReadyH.cons rfl (fun K' hK' => ?_) AllReadyH.nil
        go_simp
        refine hK'.out _ _ (FAR.out w9 K9.out _ _) (fun hHeld => ?_)
        clear hK' K'
        refine wpAnyH_take (i := 10) (oi := { dst := some 5, op := Op.assign (Operand.tmp 32), type := 2, pos := "l10_designs.go:272", after := #[{ on := 8, ground := Ground.data }, { on := 9, ground := Ground.chain }, { on := 0, ground := Ground.phase }, { on := 1, ground := Ground.phase }, { on := 2, ground := Ground.phase }, { on := 3, ground := Ground.phase }, { on := 4, ground := Ground.phase }, { on := 5, ground := Ground.phase }, { on := 6, ground := Ground.phase }, { on := 7, ground := Ground.phase }, { on := 8, ground := Ground.phase }, { on := 9, ground := Ground.phase }], guard := none }) (v := ?_) rfl (by kernel_rfl) (by kernel_rfl) (by kernel_rfl) (fun _ _ _ h => h) (Or.inl ⟨by rfl, ?_⟩) (by assumption) ?_
        rotate_left
        · intro w hSw; (try dsimp only at hSw); go_simp
          try with_reducible rfl
        simp only [Act.put, List.setIfInBounds_toArray, List.set_cons_zero, List.set_cons_succ]
        refine wpAnyH_done (by kernel_rfl) ?_ _
        clear hHeld
        go_wp2
        exact EY.out w9 w8.heap.size ay ly cy K9.out (by omega) OK.out EQ.out LX.out _ rfl rfl
      · have t1 : (n != n2) = true := by simpa using en
        have V := Lib.hid (VS.out OK.out en)
        replace en := Lib.hid en
        go_enter Tryd.func26, Tryd.ntmps26
        go_wp2_with fail
        try rw [hw1]
        try rw [z1]
        try rw [hw2]
        try rw [z2]
        try rw [hw3]
        try rw [hB]
        refine (HO.out _ K3.out).mono ?_
        rintro e w4 ⟨rfl, d, rfl⟩
        have K4 := Lib.hid (KD.out _ d K3.out)
        clear c0 c1 c2 c3
        go_wp2_with fail
        refine (HO2.out _ K4.out).mono ?_
        rintro e w5 ⟨rfl, d2, rfl⟩
        have K5 := Lib.hid (KD.out _ d2 K4.out)
        obtain ⟨w5, hw5⟩ : ∃ w5, (w3.drewN d).drewN d2 = w5 := ⟨_, rfl⟩
        rw [hw5] at K5
        rw [hw5]
        clear hw5
        obtain ⟨⟨c0, c1⟩, ⟨c2, c3⟩, r5, -, -⟩ := KO.out _ K5.out
        obtain ⟨d0, d1, f0, f1⟩ := cells2 _ (B + 2) _ _ _ r5
        clear r5
        go_wp2
        exact EN.out _ 6 K5.out V.out _ rfl rfl
end Go.Proofs.YtdhlnagkhkcoiaaDoor
