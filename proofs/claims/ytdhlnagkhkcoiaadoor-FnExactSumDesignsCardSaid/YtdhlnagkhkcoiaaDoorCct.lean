/- slices.Grow of nil, slices.Concat of two, at sets of points. -/
import Derived.Test.YtdhlnagkhkcoiaaDoorDpi
import Derived.Lib.AppendZeros
namespace Go.Proofs.YtdhlnagkhkcoiaaDoor
open Go.RowKit Go.Shelf
set_option linter.unusedVariables false
set_option linter.unusedSimpArgs false

set_option maxRecDepth 100000 in
set_option maxHeartbeats 1000000 in
theorem iGrowNil (n : Nat) (hn : n ≤ 1048576) (w : World) :
    Calls Tryd.prog 72 #[.slice none 0 0, .int .i64 (n : Int)] w fun e w' => ∃ v, e = .returned v ∧ Us w' w.heap.size v [] ∧ Below w.heap.size w w' := by
  have g1 : decide ((n : Int) < 0) = false := decide_eq_false (by omega)
  have w1 := IntWalk.i64_in ((n : Int) - 0) (by omega)
  have w1' := IntWalk.i64_in (n : Int) (by omega)
  by_cases h0 : n = 0
  · subst h0
    go_enter Tryd.func72, Tryd.ntmps72
    go_wp2
    go_ret
    exact ⟨_, rfl, World.ownsRow_nil _ _ _ _, Below.refl _ _⟩
  · have g2 : decide ((0 : Int) < (n : Int)) = true := decide_eq_true (by omega)
    have g2' : decide (0 < n) = true := decide_eq_true (by omega)
    obtain ⟨i0, hi, hz0, hz1, hz2⟩ := info_parts Tryd.infoSet
    have HR := Lib.hid (fun (ty : TypeId) => Lib.run_append_nil_zeros (P := Tryd.prog) w 51 3 ty 81 i0 (.int .u32 0) .i64 .i64 Tryd.underlying51 Tryd.underlying3 hi hz0 n (by omega) (by rw [hz1]; omega) (by omega) (by rw [hz2]; omega))
    have hGn : n ≤ grownCap w n 0 81 := grownCap_ge w _ _ _
    have hGm := grownCap_le_maxLen w n 0 81 (by unfold maxLen; omega)
    have cells0 : (Value.int .u32 0).cells = #[.int .u32 0] := rfl
    rw [cells0] at HR
    obtain ⟨G, hG⟩ : ∃ G, grownCap w n 0 81 = G := ⟨_, rfl⟩
    rw [hG] at HR hGn hGm
    obtain ⟨cs, hcs⟩ : ∃ cs, Builtin.zeroCells #[Value.int IntKind.u32 0] n ++ Builtin.zeroCells #[Value.int IntKind.u32 0] (G - n) = cs := ⟨_, rfl⟩
    have hsz : cs.size = G := by rw [← hcs]; simp [Builtin.zeroCells]; omega
    rw [hcs] at HR
    have U : Hid (Us (w.drew.alloc (.cells cs 81)) w.heap.size (.slice (some ⟨w.heap.size, 0, none⟩) 0 G) []) := World.ownsRow_made w.drew cs G (Nat.le_refl _) hGm (by omega)
    have BB : Hid (Below w.heap.size w (w.drew.alloc (.cells cs 81))) := (Below.refl _ _).drew.alloc (Nat.le_refl _) _
    have gi : (0 : Int) ≤ (G : Int) := by omega
    clear hcs hG hGm hi hz0 hz1 hz2 cells0
    go_enter Tryd.func72, Tryd.ntmps72
    go_wp2_with (at_builtin; refine Lib.wpList_append_run _ rfl _ _ _ _ rfl _ _ rfl rfl _ _ (HR.out _) ?_)
    go_ret
    exact ⟨_, rfl, U.out, BB.out⟩

/-- 'xs = append(xs, ys...)' of sets. -/
theorem wpList_extU {ops : Array Oper} {rest : List Oper} {o : Oper} {a : Act} {Q : Exit → Act → World → Prop} (w : World) (hgd : o.guard = none) (s x : Operand)
    (ho : o.op = .call { callee := .builtin .append, args := #[s, x], argTypes := #[51, 51] })
    (B : Nat) (v : Value) (L : List Nat) (hs : a.eval s = v) (h : Us w B v L) (g m c : Nat) (S : Nat → Nat) (hU : Ub w g m S) (hx : a.eval x = .slice (some ⟨g, 0, none⟩) m c)
    (hl : L.length < 1000000000) (hm : m < 1000000000) (hB : B ≤ w.heap.size)
    (hK : ∀ v' w', Us w' B v' (L ++ (List.range m).map S) → Below B w w' → wpList Tryd.prog ops Q rest (a.put o.dst v') w') :
    wpList Tryd.prog ops Q (o :: rest) a w := by
  obtain ⟨i0, hi, hz0, hz1, hz2⟩ := info_parts Tryd.infoSet
  refine wpList_append_own _ hgd s x 51 ho B 81 i0 (.int .u32 0) 1 4 Tryd.underlying51 hi hz0 hz1 hz2 rfl (by decide) v L.length _ hs h ⟨g, 0, none⟩ m c (((List.range m).map S).map (fun x => Value.int .u32 (x : Nat))) hx (by simp) ?c1 ?c2 ?c3 ?c4 ?c5 ?_
  case c1 =>
    intro j u hj
    have hjm : j < m := by
      by_cases d : j < m
      · exact d
      · rw [List.getElem?_eq_none (by simp; omega)] at hj; cases hj
    have := hU.cell j hjm
    simp [hjm] at hj
    subst hj
    by_cases e : j = 0
    · subst e; simpa [Addr.add] using this
    · simpa [Addr.add, e] using this
  case c2 =>
    intro u hu
    obtain ⟨x, _, rfl⟩ := List.mem_map.1 hu
    rfl
  case c3 => unfold maxLen; omega
  case c4 => omega
  case c5 => exact hB
  intro v' w' h' hg _
  refine hK v' w' ?_ ?_
  · unfold Us
    rw [List.length_append, List.map_append, List.length_map, List.length_range]
    exact h'
  · exact (Below.refl _ _).grown hg hB (fun k hk => (World.ownsRow.lt h k hk).1)

set_option maxRecDepth 100000 in
set_option maxHeartbeats 2000000 in
theorem iConcat (ga ma gb mb gc : Nat) (Sa Sb : Nat → Nat) (ha : ma ≤ 128) (hb : mb ≤ 128) (w : World) (hA : Ub w ga ma Sa) (hBb : Ub w gb mb Sb)
    (c0 : w.cell? ⟨gc, 0, none⟩ = some (.slice (some ⟨ga, 0, none⟩) ma ma)) (c1 : w.cell? ⟨gc, 1, none⟩ = some (.slice (some ⟨gb, 0, none⟩) mb mb)) :
    Calls Tryd.prog 50 #[.slice (some ⟨gc, 0, none⟩) 2 2] w fun e w' => ∃ v, e = .returned v ∧ Us w' w.heap.size v ((List.range ma).map Sa ++ (List.range mb).map Sb) ∧ Below w.heap.size w w' := by
  obtain ⟨B, hB⟩ : ∃ B, w.heap.size = B := ⟨_, rfl⟩
  have lga : ga < B := by rw [← hB]; exact hA.lt
  have lgb : gb < B := by rw [← hB]; exact hBb.lt
  have lgc : gc < B := by rw [← hB]; exact World.block_lt_of_cell? w _ c0
  have HG := Lib.hid (iGrowNil (ma + mb) (by omega) w)
  rw [hB] at HG
  have KC := Lib.hid (fun W (h : Below B w W) => And.intro (show W.cell? ⟨gc, 0, none⟩ = some (.slice (some ⟨ga, 0, none⟩) ma ma) from (h.cell (p := ⟨gc, 0, none⟩) lgc).trans c0) (show W.cell? ⟨gc, 1, none⟩ = some (.slice (some ⟨gb, 0, none⟩) mb mb) from (h.cell (p := ⟨gc, 1, none⟩) lgc).trans c1))
  have KA := Lib.hid (fun W (h : Below B w W) => hA.below h lga)
  have KB := Lib.hid (fun W (h : Below B w W) => hBb.below h lgb)
  have w1 := IntWalk.i64_in ((ma : Int) + (mb : Int)) (by omega)
  have w2 := IntWalk.i64_in ((ma : Int)) (by omega)
  have w3 : IntKind.i64.wrap (0 + (ma : Int)) = (ma : Int) := by rw [Int.zero_add]; exact w2
  have g1 : decide ((ma : Int) < 0) = false := decide_eq_false (by omega)
  have g2 : decide ((ma : Int) + (mb : Int) < 0) = false := decide_eq_false (by omega)
  have HB := Lib.hid hB
  have SZ : Hid (B ≤ w.heap.size) := Nat.le_of_eq hB.symm
  have e1 : ((ma + mb : Nat) : Int) = (ma : Int) + (mb : Int) := by omega
  rw [e1] at HG
  clear hA hBb lga lgb lgc e1
  go_enter Tryd.func50, Tryd.ntmps50
  go_wp2
  refine wp_loop_rounds 3 ?_
  rw [rounds_succ]
  go_wp2
  rw [rounds_succ]
  go_wp2
  rw [rounds_succ]
  go_wp2_with fail
  refine HG.out.mono ?_
  rintro e w5 ⟨v5, rfl, U5, b5⟩
  have UU5 := Lib.hid U5
  have BB5 := Lib.hid b5
  obtain ⟨d0, d1⟩ := KC.out _ b5
  have UA5 := Lib.hid (KA.out _ b5)
  have s5 : B ≤ w5.heap.size := by have := b5.size; have := SZ.out; omega
  obtain ⟨a5, l5, c5, rfl⟩ : ∃ a l c, v5 = .slice a l c := by
    rcases U5.uc with ⟨rfl, _⟩ | ⟨g, cp, rfl, _⟩
    · exact ⟨_, _, _, rfl⟩
    · exact ⟨_, _, _, rfl⟩
  clear U5 b5 c0 c1
  go_wp2
  refine wp_loop_rounds 3 ?_
  rw [rounds_succ]
  go_wp2_with (at_builtin; (refine wpList_extU w5 (by rfl) _ _ (by rfl) B _ [] (by rfl) UU5.out ga ma ma Sa UA5.out (by rfl) (by simp) (by omega) s5 ?_; intro v6 w6 h6 b6; have U6 := Lib.hid h6; have BB6 : Hid (Below B w w6) := BB5.out.trans b6; have e6 := KC.out _ BB6.out; have e60 := e6.1; have e61 := e6.2; have UB6 := Lib.hid (KB.out _ BB6.out); have s6 : B ≤ w6.heap.size := Nat.le_trans s5 b6.size; clear h6 b6 e6))
  rw [rounds_succ]
  obtain ⟨a6, l6, c6, rfl⟩ : ∃ a l c, v6 = .slice a l c := by
    rcases U6.out.uc with ⟨rfl, _⟩ | ⟨g, cp, rfl, _⟩
    · exact ⟨_, _, _, rfl⟩
    · exact ⟨_, _, _, rfl⟩
  have l6 : ([] ++ (List.range ma).map Sa).length < 1000000000 := by simp; omega
  go_wp2_with (at_builtin; (refine wpList_extU w6 (by rfl) _ _ (by rfl) B _ _ (by rfl) U6.out gb mb mb Sb UB6.out (by rfl) l6 (by omega) s6 ?_; intro v7 w7 h7 b7; have U7 := Lib.hid h7; have BB7 : Hid (Below B w w7) := BB6.out.trans b7; clear h7 b7))
  rw [rounds_succ]
  go_wp2
  go_ret
  exact ⟨_, rfl, by have := U7.out; rw [List.nil_append] at this; first | exact this | (rw [HB.out]; exact this), by first | exact BB7.out | (rw [HB.out]; exact BB7.out)⟩
end Go.Proofs.YtdhlnagkhkcoiaaDoor
