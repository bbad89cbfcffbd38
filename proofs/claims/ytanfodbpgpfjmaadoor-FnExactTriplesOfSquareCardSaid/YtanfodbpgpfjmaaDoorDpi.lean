/- What other blocks have in a set of points (partOf): the program's. -/
import Derived.Test.YtanfodbpgpfjmaaDoorDmk
import Derived.StillTailTactics
namespace Go.Proofs.YtanfodbpgpfjmaaDoor
open Go.RowKit Go.Shelf
set_option linter.unusedVariables false
set_option linter.unusedSimpArgs false

/-! ### has, renumbered -/
theorem pow_lt32 {z : Nat} (hz : z < 32) : 2 ^ z < 4294967296 := by
  have : 2 ^ z < 2 ^ 32 := Nat.pow_lt_pow_right (by omega) hz
  omega
theorem and_pow_ne' (s z : Nat) : (((s &&& 2 ^ z : Nat) : Int) != 0) = s.testBit z := by
  cases e : s.testBit z with
  | true =>
    have : ¬ s &&& 2 ^ z = 0 := fun h => by
      have k : (s &&& 2 ^ z).testBit z = true := by rw [Nat.testBit_and, e, Nat.testBit_two_pow, decide_eq_true rfl]; rfl
      rw [h, Nat.zero_testBit] at k; cases k
    have h2 : ¬ (((s &&& 2 ^ z : Nat) : Int) = 0) := by omega
    simpa using h2
  | false =>
    have : s &&& 2 ^ z = 0 := Nat.eq_of_testBit_eq fun i => by
      rw [Nat.testBit_and, Nat.testBit_two_pow, Nat.zero_testBit]
      by_cases c : z = i
      · rw [← c, e]; rfl
      · rw [decide_eq_false c, Bool.and_false]
    rw [this]; rfl
theorem ihasd (s z : Nat) (hs : s < 4294967296) (hz : z < 32) (w : World) :
    Calls Tryd.prog 106 #[.int .u32 s, .int .i64 z] w fun e w' => e = .returned (.bool (s.testBit z)) ∧ w' = w := by
  have H := Lib.hid (isingle z hz w)
  have e1 := u32_and s (2 ^ z) hs (pow_lt32 hz)
  have e2 := and_pow_ne' s z
  obtain ⟨p, hp⟩ : ∃ p, 2 ^ z = p := ⟨_, rfl⟩
  rw [hp] at H e1 e2
  obtain ⟨q, hq⟩ : ∃ q, s &&& p = q := ⟨_, rfl⟩
  rw [hq] at e1 e2
  obtain ⟨b, hb⟩ : ∃ b, s.testBit z = b := ⟨_, rfl⟩
  rw [hb] at e2 ⊢
  clear hp hq hb hs hz
  go_enter Tryd.func106, Tryd.ntmps106
  go_wp2_with fail
  refine H.out.mono ?_
  rintro e w' ⟨rfl, rfl⟩
  go_wp2
  go_ret
  exact ⟨rfl, rfl⟩

/-- The bits of the places of some points in a set. -/
def Ren (s : Nat) (ys : List Int) (j r : Nat) : Prop := r < 4294967296 ∧ ∀ i, r.testBit i = (decide (i < j) && s.testBit (ys.getD i 0).toNat)
set_option maxRecDepth 100000 in
set_option maxHeartbeats 1000000 in
theorem irenum (s : Nat) (hs : s < 4294967296) (ys : List Int) (hl : ys.length ≤ 32) (hy : ∀ i, i < ys.length → 0 ≤ ys.getD i 0 ∧ ys.getD i 0 ≤ 31) (w : World) (v : Value) (hv : IntsAt w v ys) :
    Calls Tryd.prog 72 #[.int .u32 s, v] w fun e w' => ∃ r : Nat, e = .returned (.int .u32 r) ∧ Ren s ys ys.length r ∧ w' = w := by
  obtain ⟨a, cap, rfl, hml, hc⟩ := hv.shape
  obtain ⟨m, hm⟩ : ∃ m, ys.length = m := ⟨_, rfl⟩
  rw [hm] at hl hy hc hml ⊢
  have HC := Lib.hid hc
  have HY := Lib.hid hy
  have HH := Lib.hid (fun z (hz : z < 32) W => ihasd s z hs hz W)
  have R0 : Hid (Ren s ys 0 0) := ⟨by omega, fun i => by rw [Nat.zero_testBit]; rfl⟩
  clear hv hc hy hm
  go_enter Tryd.func72, Tryd.ntmps72
  go_wp2
  go_loop [5, 10] (fun p i => ∃ j r : Nat, j ≤ m ∧ p = .int .u32 (r : Int) ∧ i = .int .i64 j ∧ Hid (Ren s ys j r)) (fun _ i => m - (intOf i).toNat)
  case atStart => exact ⟨0, 0, by omega, rfl, rfl, R0⟩
  case round =>
    obtain ⟨j, r, hj, rfl, rfl, hR⟩ := hrel
    by_cases c : j < m
    · have g1 : decide (j < m) = true := by simpa using c
      have g1' : decide ((j : Int) < (m : Int)) = true := decide_eq_true (by omega)
      have w3 := IntWalk.i64_in ((j : Int) + 1) (by omega)
      have j0 : (0 : Int) ≤ (j : Int) := by omega
      have j1 : (j : Int) < (m : Int) := by omega
      obtain ⟨g, off, rfl, cj⟩ := HC.out j c
      obtain ⟨y0, y1⟩ := HY.out j c
      obtain ⟨z, hz⟩ : ∃ z : Nat, ys.getD j 0 = z := ⟨(ys.getD j 0).toNat, by omega⟩
      have HZ := Lib.hid hz
      rw [hz] at cj y0 y1
      have HHz := Lib.hid (HH.out z (by omega))
      clear hz
      cases hb : s.testBit z with
      | true =>
        simp only [hb] at HHz
        have HS := Lib.hid (isingle j (by omega) w)
        have HU := Lib.hid (iunion r (2 ^ j) w hR.out.1 (pow_lt32 (by omega)))
        have RN : Hid (∀ x, OpOut (fun a b => a || b) r (2 ^ j) x → Ren s ys (j + 1) x) := fun x hx => ⟨hx.1, fun i => by
          rw [hx.2 i, hR.out.2 i, Nat.testBit_two_pow]
          show ((decide (i < j) && s.testBit (ys.getD i 0).toNat) || decide (j = i)) = _
          by_cases e : i = j
          · subst e; rw [decide_eq_true rfl, decide_eq_true (show i < i + 1 by omega), HZ.out, Int.toNat_natCast, hb, Bool.or_true]; rfl
          · rw [decide_eq_false (show ¬ j = i by omega), Bool.or_false]
            by_cases l : i < j
            · rw [decide_eq_true l, decide_eq_true (show i < j + 1 by omega)]
            · rw [decide_eq_false l, decide_eq_false (show ¬ i < j + 1 by omega)]⟩
        obtain ⟨p, hp⟩ : ∃ p, 2 ^ j = p := ⟨_, rfl⟩
        rw [hp] at HS HU RN
        clear hp hb hR
        go_wp2_with fail
        refine (HHz.out _).mono ?_
        rintro e w5 ⟨rfl, rfl⟩
        go_wp2_with fail
        refine HS.out.mono ?_
        rintro e w5 ⟨rfl, rfl⟩
        go_wp2_with fail
        refine HU.out.mono ?_
        rintro e w5 ⟨x, rfl, hx, rfl⟩
        have HX := Lib.hid (RN.out x hx)
        clear hx
        go_wp2
        go_round
        case rel => exact ⟨j + 1, x, by omega, rfl, by go_num, HX⟩
        case measure => simp [intOf]; omega
      | false =>
        simp only [hb] at HHz
        have RN : Hid (Ren s ys (j + 1) r) := ⟨hR.out.1, fun i => by
          rw [hR.out.2 i]
          by_cases e : i = j
          · subst e; rw [decide_eq_false (Nat.lt_irrefl i), decide_eq_true (show i < i + 1 by omega), HZ.out, Int.toNat_natCast, hb]; rfl
          · by_cases l : i < j
            · rw [decide_eq_true l, decide_eq_true (show i < j + 1 by omega)]
            · rw [decide_eq_false l, decide_eq_false (show ¬ i < j + 1 by omega)]⟩
        clear hb hR
        go_wp2_with fail
        refine (HHz.out _).mono ?_
        rintro e w5 ⟨rfl, rfl⟩
        go_wp2
        go_round
        case rel => exact ⟨j + 1, r, by omega, rfl, by go_num, RN⟩
        case measure => simp [intOf]; omega
    · have g1 : decide (j < m) = false := by simpa using c
      have g1' : decide ((j : Int) < (m : Int)) = false := decide_eq_false (by omega)
      obtain rfl : j = m := by omega
      go_wp2
      go_ret
      exact ⟨r, rfl, hR.out, rfl⟩

/-! ### Slices of sets that grow -/
def Us (w : World) (B : Nat) (v : Value) (L : List Nat) : Prop := w.ownsRow B 53 1 v L.length (L.map (fun x => Value.int .u32 (x : Nat)))
theorem wpList_pushU {ops : Array Oper} {rest : List Oper} {o : Oper} {a : Act} {Q : Exit → Act → World → Prop} (w : World) (hgd : o.guard = none) (s x : Operand)
    (ho : o.op = .call { callee := .builtin .append, args := #[s, x], argTypes := #[45, 45] })
    (B : Nat) (v : Value) (L : List Nat) (hs : a.eval s = v) (h : Us w B v L) (y : Nat) (T : TypeId) (hx : a.eval x = .slice (some ⟨w.heap.size, 0, none⟩) 1 1)
    (hl : L.length < 1000000000000) (hB : B ≤ w.heap.size)
    (hK : ∀ v' w', Us w' B v' (L ++ [y]) → Below B w w' → wpList Tryd.prog ops Q rest (a.put o.dst v') w') :
    wpList Tryd.prog ops Q (o :: rest) a (w.alloc (.cells #[.int .u32 (y : Nat)] T)) := by
  obtain ⟨i0, hi, hz0, hz1, hz2⟩ := info_parts Tryd.infoSet
  refine wpList_append_own _ hgd s x 45 ho B 53 i0 (.int .u32 0) 1 4 Tryd.underlying45 hi hz0 hz1 hz2 rfl (by decide) v L.length _ hs (World.ownsRow.alloc h _) ⟨w.heap.size, 0, none⟩ 1 1 [.int .u32 (y : Nat)] hx rfl ?c1 ?c2 ?c3 ?c4 ?c5 ?_
  case c1 =>
    intro j u hj
    match j, hj with
    | 0, hj => simp at hj; subst hj; simp [Addr.add]
  case c2 => intro u hu; simp at hu; subst hu; rfl
  case c3 => unfold maxLen; omega
  case c4 => omega
  case c5 => simp; omega
  intro v' w' h' hg _
  refine hK v' w' ?_ ?_
  · unfold Us
    rw [List.length_append, List.map_append]
    exact h'
  · exact ((Below.refl _ _).alloc hB _).grown hg (by simp; omega) (fun k hk => (World.ownsRow.lt h k hk).1)
theorem Us.uc {w : World} {B : Nat} {v : Value} {L : List Nat} (h : Us w B v L) : (v = .slice none 0 0 ∧ L = []) ∨ ∃ g cp, v = .slice (some ⟨g, 0, none⟩) L.length cp ∧ B ≤ g ∧ Uc w g L.length (fun i => L.getD i 0) := by
  obtain ⟨h1, ⟨rfl, h2⟩ | ⟨g, cap, cur, rfl, h3, h4, h5, h6, h7, h8⟩⟩ := h
  · exact .inl ⟨rfl, List.length_eq_zero_iff.1 h2⟩
  · refine .inr ⟨g, cap, rfl, h3, cur, _, h4, fun i hi => ?_⟩
    have e := congrArg (fun l => l[i]?) h8
    simp only [List.getElem?_take, Nat.mul_one] at e
    rw [if_pos hi] at e
    rw [← Array.getElem?_toList, e, List.getElem?_map, List.getElem?_eq_getElem hi, Option.map_some]
    show some (Value.int .u32 ((L[i] : Nat) : Int)) = some (Value.int .u32 ((L.getD i 0 : Nat) : Int))
    rw [List.getD_eq_getElem?_getD, List.getElem?_eq_getElem hi]; rfl
theorem ptsL_list (L : List Nat) : ptsL L.length (fun i => L.getD i 0) = L.map ptsN := by
  apply List.ext_getElem (by simp [ptsL])
  intro i h1 h2
  simp [ptsL] at h1
  simp [ptsL, h1]

theorem endsD {fn : Func} {i j : Nat} (hfn : fn.results = #[.cell i 24, .tmp j]) (W : World) (q : Nat) (z0 z1 : Value) (hk : W.heap[q]? = some (.cells #[z0, z1] 24 (0, 0))) (a b : Value) (o : Value) (Φ : Ending → World → Prop)
    (hΦ : Φ (.returned (.tuple #[.agg #[a, b], o])) ((W.setCell ⟨q, 0, none⟩ a).setCell ⟨q, 1, none⟩ b)) (tmps : Array Value) (t2 : tmps.getD i undef = .pointer (some ⟨q, 0, none⟩)) (t3 : tmps.getD j undef = o) :
    bodyPost Tryd.prog fn Φ Exit.ret { tmps := tmps, defers := [] } ((W.setCell ⟨q, 0, none⟩ a).setCell ⟨q, 1, none⟩ b) := by
  have R9 := set2_row W q _ _ a b _ hk
  obtain ⟨w9, hw9⟩ : ∃ w9, ((W.setCell ⟨q, 0, none⟩ a).setCell ⟨q, 1, none⟩ b) = w9 := ⟨_, rfl⟩
  rw [hw9] at R9 hΦ ⊢
  have hld := run_loadVar_row (P := Tryd.prog) _ _ 24 24 #[a, b] (0, 0) _ R9 Tryd.underlying24 rfl Tryd.infoDes
  have t2' : tmps[i]?.getD undef = .pointer (some ⟨q, 0, none⟩) := by simpa using t2
  have t3' : tmps[j]?.getD undef = o := by simpa using t3
  refine bodyPost_ret (v := .tuple #[.agg #[a, b], o]) ?_ rfl hΦ
  rw [results_cell_tmp hfn]
  simp [asAddr, Result.andThen, t2', t3', hld]
theorem cells2 (W : World) (g : Nat) (z0 z1 : Value) (T : TypeId) (h : W.heap[g]? = some (.cells #[z0, z1] T (0, 0))) :
    W.cell? ⟨g, 0, none⟩ = some z0 ∧ W.cell? ⟨g, 1, none⟩ = some z1 ∧ W.frozen? ⟨g, 0, none⟩ = false ∧ W.frozen? ⟨g, 1, none⟩ = false :=
  ⟨by rw [cell_of_row W g 0 _ _ _ h]; rfl, by rw [cell_of_row W g 1 _ _ _ h]; rfl, frozen_of_row W g 0 _ _ h, frozen_of_row W g 1 _ _ h⟩

/-! partOf: the program's. -/
section
open Go.RowKit Go.Shelf Go.Lib Go.Sort
set_option linter.unusedVariables false
set_option linter.unusedSimpArgs false

/-! ### designOf of no block -/
theorem sortL_nil : sortL [] = [] := List.eq_nil_of_length_eq_zero (by rw [(sortL_perm []).length_eq]; rfl)
theorem dx_nil (n : Int) : dxN n [] = n ∧ dxL [] = [] ∧ dxC [] = 0 := by
  unfold dxN dxL dxC
  exact ⟨rfl, sortL_nil, rfl⟩
theorem iIndexNil (w : World) :
    Calls Tryd.prog 91 #[.slice none 0 0, .int .u32 0] w fun e w' => e = .returned (.int .i64 (-1)) ∧ w' = w := by
  go_enter Tryd.func91, Tryd.ntmps91
  go_wp2
  refine wp_loop_rounds 1 ?_
  rw [rounds_succ]
  go_wp2
  go_ret
  exact ⟨rfl, rfl⟩
theorem iContainsNil (w : World) :
    Calls Tryd.prog 56 #[.slice none 0 0, .int .u32 0] w fun e w' => e = .returned (.bool false) ∧ w' = w := by
  have H := Lib.hid (iIndexNil w)
  go_enter Tryd.func56, Tryd.ntmps56
  go_wp2_with fail
  refine H.out.mono ?_
  rintro e w2 ⟨rfl, rfl⟩
  go_wp2
  go_ret
  exact ⟨rfl, rfl⟩
theorem isortNil (b : Nat) (w : World) :
    Calls Tryd.prog 57 #[.iface 45 (.slice none 0 0), .func (.func 97) #[] #[.pointer (some ⟨b, 0, none⟩)]] w fun e w' => e = .returned (.tuple #[]) ∧ Below w.heap.size w w' := by
  have key := Any.sort_Slice_tiny (P := Tryd.prog) Tryd.laysGg6 45 53 psT psE (by kernel_rfl) (by kernel_rfl) (by kernel_rfl) (by kernel_rfl) 10 (fun _ => by kernel_rfl) none 0 0 (by omega) 115 (by rw [psK, if_pos rfl]; kernel_rfl) (.func 97) #[] #[.pointer (some ⟨b, 0, none⟩)] w
  refine key.mono ?_
  rintro e w' ⟨rfl, os, rfl⟩
  refine ⟨rfl, rfl, rfl, rfl, by rw [size_grow]; exact Nat.le_add_right _ _, fun k hk => heap_grow_old _ _ hk⟩

set_option maxRecDepth 100000 in
set_option maxHeartbeats 2000000 in
theorem idesNil (n : Int) (w : World) :
    Calls Tryd.prog 29 #[.int .i64 n, .slice none 0 0] w fun e w' => ∃ z, e = .returned (.tuple #[.agg #[.int .i64 n, z], .int .i64 0]) ∧ RowsL w' w.heap.size w'.heap.size z [] ∧ Below w.heap.size w w' := by
  obtain ⟨B, hB⟩ : ∃ B, w.heap.size = B := ⟨_, rfl⟩
  obtain ⟨w0, hw0⟩ : ∃ w0, w.alloc (.cells #[.int .i64 0, .slice none 0 0] 24) = w0 := ⟨_, rfl⟩
  have b0 : Below B w w0 := by rw [← hw0]; exact (Below.refl _ _).alloc (Nat.le_of_eq hB.symm) _
  have z0 : w0.heap.size = B + 1 := by rw [← hw0, World.size_alloc, hB]
  have R0 : w0.heap[B]? = some (.cells #[.int .i64 0, .slice none 0 0] 24 (0, 0)) := by rw [← hw0, ← hB]; exact heap_alloc_new _ _
  have HC := Lib.hid (iContainsNil w0)
  have HO := Lib.hid (iorder (.slice none 0 0) w0 _ _ _ rfl)
  obtain ⟨w1, hw1⟩ : ∃ w1, w0.alloc (.cells #[.slice none 0 0] 45) = w1 := ⟨_, rfl⟩
  have b1 : Below (B + 1) w0 w1 := by rw [← hw1]; exact (Below.refl _ _).alloc (Nat.le_of_eq z0.symm) _
  have z1 : w1.heap.size = B + 2 := by rw [← hw1, World.size_alloc, z0]
  have HSO := Lib.hid (isortNil (B + 1) w1)
  rw [z0, hw1] at HO
  have B1 : Hid (Below B w w1) := b0.trans (b1.mono (by omega))
  have Z1 := Lib.hid z1
  have HB := Lib.hid hB
  have R1 : Hid (w1.heap[B]? = some (.cells #[.int .i64 0, .slice none 0 0] 24 (0, 0))) := (b1.block B (by omega)).trans R0
  clear b0 z0 R0 b1 z1
  go_enter Tryd.func29, Tryd.ntmps29
  go_wp2_with fail
  try rw [hw0]
  refine HC.out.mono ?_
  rintro e w2 ⟨rfl, rfl⟩
  clear hw0
  go_wp2_with fail
  refine HO.out.mono ?_
  rintro e w3 ⟨rfl, rfl⟩
  clear hw1
  go_wp2_with fail
  refine HSO.out.mono ?_
  rintro e w4 ⟨rfl, b4⟩
  have R4 : w4.heap[B]? = some (.cells #[.int .i64 0, .slice none 0 0] 24 (0, 0)) := (b4.block B (by have := Z1.out; omega)).trans R1.out
  have B4 : Below B w w4 := B1.out.trans (b4.mono (by have := Z1.out; omega))
  have z4 : B + 2 ≤ w4.heap.size := by have := b4.size; have := Z1.out; omega
  obtain ⟨D, hD⟩ : ∃ D, w4.heap.size = D := ⟨_, rfl⟩
  have hmk := run_make_row' (P := Tryd.prog) 22 41 (.slice none 0 0) 24 Tryd.underlying22 Tryd.infoRow rfl .i64 .i64 0 (by omega) (by omega) w4
  have FR := RowsL.fresh w4 0 (by unfold maxLen; omega)
  rw [hD] at hmk FR z4
  obtain ⟨w5, hw5⟩ : ∃ w5, w4.alloc (.cells (madeCells #[.slice none 0 0] 0) 41) = w5 := ⟨_, rfl⟩
  rw [hw5] at hmk FR
  rw [show ((0 : Nat) : Int) = 0 from rfl] at hmk
  have b5 : Below D w4 w5 := by rw [← hw5]; exact (Below.refl _ _).alloc (Nat.le_of_eq hD.symm) _
  have z5 : w5.heap.size = D + 1 := by rw [← hw5, World.size_alloc, hD]
  have R5 := (b5.block B (by omega)).trans R4
  have B5 : Hid (Below B w w5) := B4.trans (b5.mono (by omega))
  rw [← z5] at FR
  have F5 := Lib.hid FR
  obtain ⟨d0, d1, f0, f1⟩ := cells2 w5 B _ _ _ R5
  have RR5 := Lib.hid R5
  have BD : Hid (B + 2 ≤ D) := z4
  clear b4 R4 B4 b5 R5 FR HSO HO HC
  go_wp2
  try rw [hw5]
  refine wp_loop_rounds 1 ?_
  rw [rounds_succ]
  go_wp2
  refine endsD rfl w5 B _ _ RR5.out _ _ _ _ ⟨_, rfl, ?_, ?_⟩ _ rfl rfl
  · exact (RowsL.off2 F5.out (show B < D by have := BD.out; omega) _ _).mono (by have := BD.out; have := HB.out; omega) (by simp [World.setCell]) (Nat.le_refl _)
  · rw [HB.out]
    exact (B5.out.setCell (p := ⟨B, 0, none⟩) (Nat.le_refl _) _).setCell (p := ⟨B, 1, none⟩) (Nat.le_refl _) _
/-- designOf of a slice of sets that the call has grown. -/
theorem idesU (n : Int) (w : World) (Q : Nat) (v : Value) (L : List Nat) (hV : Us w Q v L) (hX : ∀ x ∈ L, x < 4294967296) (hl : L.length ≤ 1048576) (hQ : 0 < Q) (hQs : Q ≤ w.heap.size) (ht : Tab w) :
    Calls Tryd.prog 29 #[.int .i64 n, v] w fun e w' => ∃ z, e = .returned (.tuple #[.agg #[.int .i64 (dxN n (L.map ptsN)), z], .int .i64 (dxC (L.map ptsN))]) ∧ RowsL w' w.heap.size w'.heap.size z (dxL (L.map ptsN)) ∧ Below Q w w' := by
  rcases hV.uc with ⟨rfl, rfl⟩ | ⟨gg, cp, rfl, hgg, hUc⟩
  · obtain ⟨e1, e2, e3⟩ := dx_nil n
    rw [show ([] : List Nat).map ptsN = [] from rfl, e1, e2, e3]
    exact (idesNil n w).mono fun e w' ⟨z, h1, h2, h3⟩ => ⟨z, h1, h2, h3.mono hQs⟩
  · have hS2 : ∀ i, i < L.length → L.getD i 0 < 4294967296 := fun i hi => hX _ (by rw [List.getD_eq_getElem?_getD, List.getElem?_eq_getElem hi]; exact List.getElem_mem _)
    have DX := dx_des n (m := L.length) (S := fun i => L.getD i 0) hS2
    rw [ptsL_list] at DX
    have H := idesC n L.length gg cp (fun i => L.getD i 0) hl w hUc hS2 (by omega) ht
    rw [DX.1, DX.2.1, DX.2.2] at H
    exact H.mono fun e w' ⟨z, h1, h2, h3⟩ => ⟨z, h1, h2, ⟨h3.os, h3.tape, h3.output, h3.size, fun i hi => h3.block i (by omega) (by omega)⟩⟩
end

/-! partOf: its walk. -/
section
open Go.RowKit Go.Shelf
set_option linter.unusedVariables false
set_option linter.unusedSimpArgs false

/-- The lists but the one with an index. -/
def skL (idx : Int) (F : Nat → List Int) : Nat → List (List Int)
  | 0 => []
  | k + 1 => skL idx F k ++ if (k : Int) = idx then [] else [F k]
theorem skL_len (idx : Int) (F : Nat → List Int) : ∀ k, (skL idx F k).length ≤ k
  | 0 => Nat.le_refl _
  | k + 1 => by
    have := skL_len idx F k
    rw [skL, List.length_append]
    split <;> simp <;> omega
theorem skL_mem (idx : Int) (F : Nat → List Int) : ∀ k l, l ∈ skL idx F k → ∃ i, i < k ∧ l = F i
  | 0, l, h => by cases h
  | k + 1, l, h => by
    rw [skL, List.mem_append] at h
    rcases h with h | h
    · obtain ⟨i, hi, e⟩ := skL_mem idx F k l h
      exact ⟨i, by omega, e⟩
    · split at h
      · cases h
      · rw [List.mem_singleton] at h
        exact ⟨k, by omega, h⟩
theorem skL_in (idx : Int) (F : Nat → List Int) {i : Nat} (hne : (i : Int) ≠ idx) : ∀ k, i < k → F i ∈ skL idx F k
  | 0, h => by omega
  | k + 1, h => by
    rw [skL, List.mem_append]
    by_cases e : i = k
    · subst e; rw [if_neg hne]; exact .inr (List.mem_singleton.2 rfl)
    · exact .inl (skL_in idx F hne k (by omega))
theorem skL_congr (idx : Int) {F G : Nat → List Int} : ∀ k, (∀ i, i < k → F i = G i) → skL idx F k = skL idx G k
  | 0, _ => rfl
  | k + 1, h => by rw [skL, skL, skL_congr idx k (fun i hi => h i (by omega)), h k (by omega)]
/-- The places of some points in a block. -/
def plF (xss : List (List Int)) (ys : List Int) (k : Nat) : List Int := fls ys.length (fun i => decide (ys.getD i 0 ∈ xss.getD k []))

theorem ren_pts {s : Nat} {ys xs : List Int} {r : Nat} (hl : ys.length ≤ 32) (hy : ∀ i, i < ys.length → 0 ≤ ys.getD i 0 ∧ ys.getD i 0 ≤ 31) (hs : ∀ z : Nat, s.testBit z = decide ((z : Int) ∈ xs)) (h : Ren s ys ys.length r) :
    ptsN r = fls ys.length (fun i => decide (ys.getD i 0 ∈ xs)) := pts_fls hl fun i => by
  rw [h.2 i]
  by_cases c : i < ys.length
  · rw [hs, Int.toNat_of_nonneg (hy i c).1]
  · rw [decide_eq_false c]; rfl

set_option maxRecDepth 100000 in
set_option maxHeartbeats 4000000 in
theorem iPart (n : Int) (m g s : Nat) (S : Nat → Nat) (xss : List (List Int)) (idx : Int) (ys : List Int) (hm : m ≤ 128) (hs : s < 4294967296) (hys : fls 32 (fun k => s.testBit k) = ys) (w : World) (hU : Ub w g m S) (hS : ∀ i, i < m → S i < 4294967296 ∧ ∀ z : Nat, (S i).testBit z = decide ((z : Int) ∈ xss.getD i [])) (ht : Tab w) :
    Calls Tryd.prog 36 #[.agg #[.int .i64 n, .slice (some ⟨g, 0, none⟩) m m], .int .u32 s, .int .i64 idx] w fun e w' => ∃ z, e = .returned (.tuple #[.agg #[.int .i64 (dxN ys.length (skL idx (plF xss ys) m)), z], .int .i64 (dxC (skL idx (plF xss ys) m))]) ∧ RowsL w' w.heap.size w'.heap.size z (dxL (skL idx (plF xss ys) m)) ∧ Below w.heap.size w w' := by
  have yl : ys.length ≤ 32 := by rw [← hys]; exact fls_len _ _
  have hy : ∀ i, i < ys.length → 0 ≤ ys.getD i 0 ∧ ys.getD i 0 ≤ 31 := fun i hi => by
    have e : ys.getD i 0 ∈ ys := by rw [List.getD_eq_getElem?_getD, List.getElem?_eq_getElem hi]; exact List.getElem_mem _
    rw [← hys] at e
    exact fls_range (Nat.le_refl 32) _ (by rw [hys] at e ⊢; exact e)
  obtain ⟨B, hB⟩ : ∃ B, w.heap.size = B := ⟨_, rfl⟩
  have hpos : 0 < B := by rw [← hB]; exact ht.pos
  have lg : g < B := by rw [← hB]; exact hU.lt
  obtain ⟨w1, hw1⟩ : ∃ w1, w.alloc (.cells #[.int .i64 n, .slice (some ⟨g, 0, none⟩) m m] 51) = w1 := ⟨_, rfl⟩
  have z1 : w1.heap.size = B + 1 := by rw [← hw1, World.size_alloc, hB]
  have b1 : Below B w w1 := by rw [← hw1]; exact (Below.refl _ _).alloc (by omega) _
  have A1 : w1.heap[B]? = some (.cells #[.int .i64 n, .slice (some ⟨g, 0, none⟩) m m] 51 (0, 0)) := by rw [← hw1, ← hB]; exact heap_alloc_new _ _
  obtain ⟨w2, hw2⟩ : ∃ w2, w1.alloc (.cells #[.int .i64 0, .slice none 0 0] 24) = w2 := ⟨_, rfl⟩
  have z2 : w2.heap.size = B + 2 := by rw [← hw2, World.size_alloc, z1]
  have b12 : Below (B + 1) w1 w2 := by rw [← hw2]; exact (Below.refl _ _).alloc (Nat.le_of_eq z1.symm) _
  have b2 : Below B w w2 := b1.trans (b12.mono (by omega))
  have A2 := (b12.block B (Nat.lt_succ_self B)).trans A1
  have R2 : w2.heap[B + 1]? = some (.cells #[.int .i64 0, .slice none 0 0] 24 (0, 0)) := by rw [← hw2, ← z1]; exact heap_alloc_new _ _
  have HP := Lib.hid (ipoints s w2 hs (ht.below b2 hpos))
  rw [hys] at HP
  rw [z2] at HP
  have U2 := hU.below b2 lg
  have HB := Lib.hid hB
  have HA2 := Lib.hid A2
  have HR2 := Lib.hid R2
  have HU2 := Lib.hid U2
  have B2 := Lib.hid b2
  have TB := Lib.hid ht
  have HY := Lib.hid hy
  have HS := Lib.hid hS
  have SK : Hid (∀ k, skL idx (plF xss ys) (k + 1) = skL idx (plF xss ys) k ++ if (k : Int) = idx then [] else [plF xss ys k]) := fun k => rfl
  have SZ : Hid (skL idx (plF xss ys) 0 = []) := rfl
  have PL : Hid (∀ k r, k < m → Ren (S k) ys ys.length r → ptsN r = plF xss ys k) := fun k r hk h => ren_pts yl hy (hS k hk).2 h
  obtain ⟨F, hF⟩ : ∃ F, plF xss ys = F := ⟨_, rfl⟩
  simp only [hF] at SK SZ PL ⊢
  obtain ⟨l, hl⟩ : ∃ l, ys.length = l := ⟨_, rfl⟩
  have HL := Lib.hid hl
  rw [hl]
  obtain ⟨lst, hlst⟩ : ∃ lst, skL idx F m = lst := ⟨_, rfl⟩
  rw [hlst]
  have HLST := Lib.hid hlst
  obtain ⟨qn, hqn⟩ : ∃ q, dxN (l : Int) lst = q := ⟨_, rfl⟩
  obtain ⟨qc, hqc⟩ : ∃ q, dxC lst = q := ⟨_, rfl⟩
  obtain ⟨ql, hql⟩ : ∃ q, dxL lst = q := ⟨_, rfl⟩
  rw [hqn, hqc, hql]
  have HQ : Hid (dxN (l : Int) lst = qn ∧ dxC lst = qc ∧ dxL lst = ql) := ⟨hqn, hqc, hql⟩
  have X0 : Hid (∀ x ∈ ([] : List Nat), x < 4294967296) := fun x hx => by cases hx
  clear hlst hqn hqc hql hU hS ht A1 A2 R2 b1 b12 b2 U2 hy hys hF
  go_enter Tryd.func36, Tryd.ntmps36
  go_wp2_with fail
  try rw [hw1]
  try rw [z1]
  try rw [hw2]
  refine HP.out.mono ?_
  rintro e w3 ⟨v3, rfl, i3, b3⟩
  obtain ⟨Q, hQ⟩ : ∃ Q, w3.heap.size = Q := ⟨_, rfl⟩
  have sQ : B + 2 ≤ Q := by have := b3.size; omega
  have A3 := (b3.block B (by omega)).trans HA2.out
  have R3 := Lib.hid ((b3.block (B + 1) (by omega)).trans HR2.out)
  have B3 : Hid (Below B w w3) := B2.out.trans (b3.mono (by omega))
  have U3 := Lib.hid (HU2.out.below b3 (by omega))
  have HI : Hid (∀ W, Below Q w3 W → IntsAt W v3 ys) := fun W h => i3.at.below h (by omega)
  obtain ⟨c0, c1, -, -⟩ := cells2 w3 B _ _ _ A3
  obtain ⟨va, vc, rfl⟩ := i3.len_eq
  have I0 : Hid (Us w3 Q (.slice none 0 0) []) := World.ownsRow_nil _ _ _ _
  have BQ : Hid (Below Q w3 w3) := Below.refl _ _
  have SZ' : Hid (([] : List Nat).map ptsN = skL idx F 0) := by rw [SZ.out]; rfl
  have HIR := Lib.hid (fun k (hk : k < m) W (h : Below Q w3 W) => irenum (S k) (HS.out k hk).1 ys yl HY.out W _ (HI.out W h))
  have LC : Hid (∀ W, Below Q w3 W → Ub W g m S) := fun W h => U3.out.below h (by omega)
  rw [hl] at HIR HI ⊢
  clear i3 b3 A3 HP
  go_wp2
  clear c0 c1
  go_loopw [9, 17] (fun bv i wr => ∃ k : Nat, ∃ L : List Nat, k ≤ m ∧ i = .int .i64 k ∧ L.length ≤ k ∧ Hid (Us wr Q bv L) ∧ Hid (L.map ptsN = skL idx F k) ∧ Hid (∀ x ∈ L, x < 4294967296) ∧ Hid (Below Q w3 wr)) (fun _ i _ => m - (intOf i).toNat)
  case atStart => exact ⟨0, [], by omega, rfl, Nat.le_refl _, I0, SZ', X0, BQ⟩
  case round =>
    obtain ⟨k, L, hk, rfl, hlen, hV, hE, hX, hBl⟩ := hrel
    by_cases c : k < m
    · have k1 : decide (k < m) = true := by simpa using c
      have k1' : decide ((k : Int) < (m : Int)) = true := decide_eq_true (by omega)
      have wk := IntWalk.i64_in ((k : Int) + 1) (by omega)
      have j0 : (0 : Int) ≤ (k : Int) := by omega
      have j1 : (k : Int) < (m : Int) := by omega
      have u1 := (LC.out wr hBl.out).cell k c
      have sW : Q ≤ wr.heap.size := by have := hBl.out.size; omega
      by_cases ei : (k : Int) = idx
      · have E1 : Hid (L.map ptsN = skL idx F (k + 1)) := by have := SK.out k; rw [if_pos ei, List.append_nil] at this; rw [this]; exact hE
        subst ei
        have t1 : ((k : Int) != (k : Int)) = false := by simp
        clear hE
        go_wp2
        go_roundw
        case rel => exact ⟨k + 1, L, by omega, by go_num, by omega, hV, E1, hX, hBl⟩
        case measure => simp [intOf]; omega
      · have t1 : ((k : Int) != idx) = true := by simpa using ei
        have HR := Lib.hid (HIR.out k c wr hBl.out)
        have PLk := Lib.hid (fun r h => PL.out k r c h)
        have E0 := SK.out k
        rw [if_neg ei] at E0
        have E0 := Lib.hid E0
        have ei := Lib.hid ei
        obtain ⟨sk, hsk⟩ : ∃ sk, S k = sk := ⟨_, rfl⟩
        rw [hsk] at u1 HR PLk
        clear hsk
        go_wp2_with fail
        refine HR.out.mono ?_
        rintro e w5 ⟨r, rfl, hr, rfl⟩
        have hpt := PLk.out r (by rw [HL.out]; exact hr)
        have E1 : Hid ((L ++ [r]).map ptsN = skL idx F (k + 1)) := by unfold Hid; rw [E0.out, List.map_append, hE.out, ← hpt]; rfl
        have X1 : Hid (∀ x ∈ L ++ [r], x < 4294967296) := fun x hx => by
          rw [List.mem_append, List.mem_singleton] at hx
          rcases hx with hx | rfl
          · exact hX.out x hx
          · exact hr.1
        clear hr hpt hE hX
        go_wp2_with (at_builtin; refine wpList_pushU _ (by rfl) _ _ (by rfl) Q _ _ (by rfl) hV.out r _ (by rfl) (by omega) sW ?_; intro v' w6 hn hb; have HN' := Lib.hid hn; have HB2 : Hid (Below Q w3 w6) := hBl.out.trans hb; clear hn hb)
        go_roundw
        case rel => exact ⟨k + 1, L ++ [r], by omega, by go_num, by simp; omega, HN', E1, X1, HB2⟩
        case measure => simp [intOf]; omega
    · have k1 : decide (k < m) = false := by simpa using c
      have k1' : decide ((k : Int) < (m : Int)) = false := decide_eq_false (by omega)
      obtain rfl : k = m := by omega
      have R9 := (hBl.out.block (B + 1) (by omega)).trans R3.out
      have B9 : Below B w wr := B3.out.trans (hBl.out.mono (by omega))
      have T9 := TB.out.below B9 hpos
      have hE := Lib.hid (hE.out.trans HLST.out)
      have HD := idesU (l : Int) wr Q _ L hV.out hX.out (by omega) (by omega) (by have := hBl.out.size; omega) T9
      rw [hE.out] at HD
      have HD := Lib.hid HD
      have R9 := Lib.hid R9
      have B9 := Lib.hid B9
      rw [HQ.out.1, HQ.out.2.1, HQ.out.2.2] at HD
      have sW : Q ≤ wr.heap.size := by have := hBl.out.size; omega
      clear hE hX hV T9
      go_wp2_with fail
      refine HD.out.mono ?_
      rintro e w9 ⟨z, rfl, hL, hO⟩
      have RX : w9.heap[B + 1]? = some (.cells #[.int .i64 0, .slice none 0 0] 24 (0, 0)) := (hO.block (B + 1) (by omega)).trans R9.out
      have BX : Hid (Below B w w9) := B9.out.trans (hO.mono (by omega))
      obtain ⟨ay, ly, cy, rfl⟩ : ∃ a l c, z = .slice a l c := by obtain ⟨a, c, e, -⟩ := hL.at.shape; exact ⟨a, _, c, e⟩
      obtain ⟨d0, d1, f0, f1⟩ := cells2 w9 (B + 1) _ _ _ RX
      have LX := Lib.hid hL
      have RX := Lib.hid RX
      clear hL hO
      go_wp2
      refine endsD (fn := Tryd.f36) (i := 6) (j := 7) rfl w9 (B + 1) _ _ RX.out _ _ _ _ ⟨.slice ay ly cy, rfl, ?_, ?_⟩ _ rfl rfl
      · exact (RowsL.off2 LX.out (show B + 1 < wr.heap.size by omega) _ _).mono (by have := HB.out; omega) (by simp [World.setCell]) (Nat.le_refl _)
      · rw [HB.out]
        exact (BX.out.setCell (p := ⟨B + 1, 0, none⟩) (Nat.le_succ B) _).setCell (p := ⟨B + 1, 1, none⟩) (Nat.le_succ B) _
end

/-! Derived and residual designs: the values; blockOf. -/
section
open Go.RowKit Go.Shelf
set_option linter.unusedVariables false
set_option linter.unusedSimpArgs false

def inIdx (idx : Int) (m : Nat) : Bool := decide (0 ≤ idx ∧ idx < m)
/-- The design of what the other blocks have in some points: number of points, blocks, code. -/
noncomputable def dpN (n : Int) (xss : List (List Int)) (idx : Int) (ys : List Int) : Int := if desB n xss = true then (if inIdx idx xss.length = true then (if ys.length = 0 then 0 else dxN ys.length (skL idx (plF xss ys) xss.length)) else 0) else 0
noncomputable def dpL (n : Int) (xss : List (List Int)) (idx : Int) (ys : List Int) : List (List Int) := if desB n xss = true then (if inIdx idx xss.length = true then (if ys.length = 0 then [] else dxL (skL idx (plF xss ys) xss.length)) else []) else []
noncomputable def dpC (n : Int) (xss : List (List Int)) (idx : Int) (ys : List Int) : Int := if desB n xss = true then (if inIdx idx xss.length = true then (if ys.length = 0 then 6 else dxC (skL idx (plF xss ys) xss.length)) else 2) else 1
theorem dp_no {n : Int} {xss : List (List Int)} (idx : Int) (ys : List Int) (h : desB n xss = false) : dpN n xss idx ys = 0 ∧ dpL n xss idx ys = [] ∧ dpC n xss idx ys = 1 := by
  unfold dpN dpL dpC; rw [h]; exact ⟨rfl, rfl, rfl⟩
theorem dp_range {n : Int} {xss : List (List Int)} {idx : Int} (ys : List Int) (h : desB n xss = true) (h2 : inIdx idx xss.length = false) : dpN n xss idx ys = 0 ∧ dpL n xss idx ys = [] ∧ dpC n xss idx ys = 2 := by
  unfold dpN dpL dpC; rw [h, h2]; exact ⟨rfl, rfl, rfl⟩
theorem dp_empty {n : Int} {xss : List (List Int)} {idx : Int} {ys : List Int} (h : desB n xss = true) (h2 : inIdx idx xss.length = true) (h3 : ys.length = 0) : dpN n xss idx ys = 0 ∧ dpL n xss idx ys = [] ∧ dpC n xss idx ys = 6 := by
  unfold dpN dpL dpC; rw [h, h2, if_pos rfl, if_pos rfl, if_pos rfl, if_pos rfl, if_pos rfl, if_pos rfl, if_pos h3, if_pos h3, if_pos h3]; exact ⟨rfl, rfl, rfl⟩
theorem dp_ok {n : Int} {xss : List (List Int)} {idx : Int} {ys : List Int} (h : desB n xss = true) (h2 : inIdx idx xss.length = true) (h3 : ¬ ys.length = 0) : dpN n xss idx ys = dxN ys.length (skL idx (plF xss ys) xss.length) ∧ dpL n xss idx ys = dxL (skL idx (plF xss ys) xss.length) ∧ dpC n xss idx ys = dxC (skL idx (plF xss ys) xss.length) := by
  unfold dpN dpL dpC; rw [h, h2, if_pos rfl, if_pos rfl, if_pos rfl, if_pos rfl, if_pos rfl, if_pos rfl, if_neg h3, if_neg h3, if_neg h3]; exact ⟨rfl, rfl, rfl⟩
/-- The code of a design and an index. -/
noncomputable def askC (n : Int) (xss : List (List Int)) (idx : Int) : Int := if desB n xss = true then (if inIdx idx xss.length = true then 0 else 2) else 1
theorem ask_no {n : Int} {xss : List (List Int)} (idx : Int) (h : desB n xss = false) : askC n xss idx = 1 := by unfold askC; rw [h]; rfl
theorem ask_range {n : Int} {xss : List (List Int)} {idx : Int} (h : desB n xss = true) (h2 : inIdx idx xss.length = false) : askC n xss idx = 2 := by unfold askC; rw [h, h2]; rfl
theorem ask_ok {n : Int} {xss : List (List Int)} {idx : Int} (h : desB n xss = true) (h2 : inIdx idx xss.length = true) : askC n xss idx = 0 := by unfold askC; rw [h, h2]; rfl

theorem results_ctt {fn : Func} {p u t : Tmp} {ty : TypeId} (h : fn.results = #[.cell p ty, .tmp u, .tmp t]) (tmps : Array Value) (P : Program) (w : World) :
    (results fn tmps).run P w =
      ((asAddr (tmps.getD p undef)).run P w).andThen fun a w₁ => ((loadVar ty a).run P w₁).andThen fun v w₂ => .ok (.tuple #[v, tmps.getD u undef, tmps.getD t undef]) w₂ := by
  simp only [results, h]
  simp [Sem.run_bind, Result.andThen]
theorem endsI {fn : Func} {i j l : Nat} (hfn : fn.results = #[.cell i 51, .tmp j, .tmp l]) (W : World) (q : Nat) (z0 z1 : Value) (hk : W.heap[q]? = some (.cells #[z0, z1] 51 (0, 0))) (a b : Value) (o u : Value) (Φ : Ending → World → Prop)
    (hΦ : Φ (.returned (.tuple #[.agg #[a, b], o, u])) ((W.setCell ⟨q, 0, none⟩ a).setCell ⟨q, 1, none⟩ b)) (tmps : Array Value) (t2 : tmps.getD i undef = .pointer (some ⟨q, 0, none⟩)) (t3 : tmps.getD j undef = o) (t4 : tmps.getD l undef = u) :
    bodyPost Tryd.prog fn Φ Exit.ret { tmps := tmps, defers := [] } ((W.setCell ⟨q, 0, none⟩ a).setCell ⟨q, 1, none⟩ b) := by
  have R9 := set2_row W q _ _ a b _ hk
  obtain ⟨w9, hw9⟩ : ∃ w9, ((W.setCell ⟨q, 0, none⟩ a).setCell ⟨q, 1, none⟩ b) = w9 := ⟨_, rfl⟩
  rw [hw9] at R9 hΦ ⊢
  have hld := run_loadVar_row (P := Tryd.prog) _ _ 51 51 #[a, b] (0, 0) _ R9 Tryd.underlying51 rfl Tryd.infoInc
  have t2' : tmps[i]?.getD undef = .pointer (some ⟨q, 0, none⟩) := by simpa using t2
  have t3' : tmps[j]?.getD undef = o := by simpa using t3
  have t4' : tmps[l]?.getD undef = u := by simpa using t4
  refine bodyPost_ret (v := .tuple #[.agg #[a, b], o, u]) ?_ rfl hΦ
  rw [results_ctt hfn]
  simp [asAddr, Result.andThen, t2', t3', t4', hld]

/-- What blockOf leaves. -/
def BoOut (n : Int) (xss : List (List Int)) (idx : Int) (B : Nat) (w' : World) (z : Value) (s : Nat) : Prop :=
  (¬ (desB n xss = true ∧ inIdx idx xss.length = true) → z = .agg #[.int .i64 0, .slice none 0 0] ∧ s = 0) ∧
  (desB n xss = true ∧ inIdx idx xss.length = true → ∃ g S, z = .agg #[.int .i64 n, .slice (some ⟨g, 0, none⟩) xss.length xss.length] ∧ B ≤ g ∧ Ub w' g xss.length S ∧ SetsF xss xss.length S ∧ s = S idx.toNat)
set_option maxRecDepth 100000 in
set_option maxHeartbeats 4000000 in
theorem iblockOf (n : Int) (xss : List (List Int)) (idx : Int) (hx : xss.length ≤ 1048576) (w : World) (v : Value) (hv : RowsAt w v xss) (ht : Tab w) :
    Calls Tryd.prog 35 #[.agg #[.int .i64 n, v], .int .i64 idx] w fun e w' => ∃ z, ∃ s : Nat, e = .returned (.tuple #[z, .int .u32 (s : Nat), .int .i64 (askC n xss idx)]) ∧ BoOut n xss idx w.heap.size w' z s ∧ Below w.heap.size w w' := by
  obtain ⟨va, cap, rfl, -⟩ := hv.shape
  obtain ⟨m, hm⟩ : ∃ m, xss.length = m := ⟨_, rfl⟩
  rw [hm] at hv ⊢
  obtain ⟨B, hB⟩ : ∃ B, w.heap.size = B := ⟨_, rfl⟩
  have hpos : 0 < B := by rw [← hB]; exact ht.pos
  obtain ⟨w1, hw1⟩ : ∃ w1, w.alloc (.cells #[.int .i64 n, .slice va m cap] 24) = w1 := ⟨_, rfl⟩
  have z1 : w1.heap.size = B + 1 := by rw [← hw1, World.size_alloc, hB]
  have b1 : Below B w w1 := by rw [← hw1]; exact (Below.refl _ _).alloc (by omega) _
  have A1 : w1.heap[B]? = some (.cells #[.int .i64 n, .slice va m cap] 24 (0, 0)) := by rw [← hw1, ← hB]; exact heap_alloc_new _ _
  obtain ⟨w2, hw2⟩ : ∃ w2, w1.alloc (.cells #[.int .i64 0, .slice none 0 0] 51) = w2 := ⟨_, rfl⟩
  have z2 : w2.heap.size = B + 2 := by rw [← hw2, World.size_alloc, z1]
  have b12 : Below (B + 1) w1 w2 := by rw [← hw2]; exact (Below.refl _ _).alloc (Nat.le_of_eq z1.symm) _
  have b2 : Below B w w2 := b1.trans (b12.mono (Nat.le_succ B))
  have R2 : w2.heap[B + 1]? = some (.cells #[.int .i64 0, .slice none 0 0] 51 (0, 0)) := by rw [← hw2, ← z1]; exact heap_alloc_new _ _
  have A2 := (b12.block B (Nat.lt_succ_self B)).trans A1
  obtain ⟨c0, c1, -, -⟩ := cells2 w2 B _ _ _ A2
  have HO := Lib.hid (iInc n xss hx w2 _ (hv.below b2 (by omega)) (ht.below b2 hpos))
  rw [z2] at HO
  have HB := Lib.hid hB
  have B2 := Lib.hid b2
  have HR2 := Lib.hid R2
  have EN : Hid (∀ (W : World) (cd : Int), W.heap[B + 1]? = some (.cells #[.int .i64 0, .slice none 0 0] 51 (0, 0)) → Below B w W → ¬ (desB n xss = true ∧ inIdx idx xss.length = true) → askC n xss idx = cd → ∀ (tmps : Array Value), tmps.getD 4 undef = .pointer (some ⟨B + 1, 0, none⟩) → tmps.getD 5 undef = .int .u32 0 → tmps.getD 6 undef = .int .i64 cd →
      bodyPost Tryd.prog Tryd.f35 (fun e w' => ∃ z, ∃ s : Nat, e = .returned (.tuple #[z, .int .u32 (s : Nat), .int .i64 (askC n xss idx)]) ∧ BoOut n xss idx w.heap.size w' z s ∧ Below w.heap.size w w') Exit.ret { tmps := tmps, defers := [] } ((W.setCell ⟨B + 1, 0, none⟩ (.int .i64 0)).setCell ⟨B + 1, 1, none⟩ (.slice none 0 0))) := fun W cd hk hb hf hc tmps t2 t3 t4 => by
    refine endsI (fn := Tryd.f35) (i := 4) (j := 5) (l := 6) rfl W (B + 1) _ _ hk _ _ _ _ _ ⟨.agg #[.int .i64 0, .slice none 0 0], 0, by rw [hc]; rfl, ⟨fun _ => ⟨rfl, rfl⟩, fun h => absurd h hf⟩, ?_⟩ tmps t2 t3 t4
    rw [HB.out]
    exact (hb.setCell (p := ⟨B + 1, 0, none⟩) (Nat.le_succ B) _).setCell (p := ⟨B + 1, 1, none⟩) (Nat.le_succ B) _
  have HM := Lib.hid hm
  clear hv A1 b1 A2 R2 b12 b2 ht
  cases hp : desB n xss with
  | false =>
    have V := Lib.hid (ask_no idx hp)
    have NT : Hid (¬ (desB n xss = true ∧ inIdx idx xss.length = true)) := fun h => by rw [hp] at h; cases h.1
    rw [hp] at HO
    clear hp
    go_enter Tryd.func35, Tryd.ntmps35
    go_wp2_with fail
    try rw [hw1]
    try rw [z1]
    try rw [hw2]
    refine HO.out.mono ?_
    rintro e w3 ⟨z, rfl, ⟨hz, -⟩, b3⟩
    obtain rfl := hz rfl
    have s3 : B + 2 ≤ w3.heap.size := by have := b3.size; omega
    have R3 := (b3.block (B + 1) (by omega)).trans HR2.out
    have B3 : Below B w w3 := B2.out.trans (b3.mono (by omega))
    have b34 : Below w3.heap.size w3 (w3.alloc (.cells #[.int .i64 0, .slice none 0 0] 51)) := (Below.refl _ _).alloc (Nat.le_refl _) _
    have R4 := (b34.block (B + 1) (by omega)).trans R3
    have B4 : Below B w (w3.alloc (.cells #[.int .i64 0, .slice none 0 0] 51)) := B3.trans (b34.mono (by omega))
    obtain ⟨d0, d1, f0, f1⟩ := cells2 (w3.alloc (.cells #[.int .i64 0, .slice none 0 0] 51)) (B + 1) _ _ _ R4
    have RR4 := Lib.hid R4
    have BB4 := Lib.hid B4
    clear b3 c0 c1 R3 B3 b34 R4 B4
    go_wp2
    exact EN.out _ 1 RR4.out BB4.out NT.out V.out _ rfl rfl rfl
  | true =>
    have HP := Lib.hid hp
    have D := of_desB hp
    rw [hp] at HO
    clear hp
    go_enter Tryd.func35, Tryd.ntmps35
    go_wp2_with fail
    try rw [hw1]
    try rw [z1]
    try rw [hw2]
    refine HO.out.mono ?_
    rintro e w3 ⟨z, rfl, ⟨-, hz⟩, b3⟩
    obtain ⟨g, S, rfl, hg, hU, hS⟩ := hz rfl
    rw [hm] at hU hS ⊢
    have s3 : B + 2 ≤ w3.heap.size := by have := b3.size; omega
    have R3 := (b3.block (B + 1) (by omega)).trans HR2.out
    have B3 : Below B w w3 := B2.out.trans (b3.mono (by omega))
    obtain ⟨w4, hw4⟩ : ∃ w4, w3.alloc (.cells #[.int .i64 n, .slice (some ⟨g, 0, none⟩) m m] 51) = w4 := ⟨_, rfl⟩
    have b34 : Below w3.heap.size w3 w4 := by rw [← hw4]; exact (Below.refl _ _).alloc (Nat.le_refl _) _
    have R4 := (b34.block (B + 1) (by omega)).trans R3
    have B4 : Below B w w4 := B3.trans (b34.mono (by omega))
    have N4 : w4.heap[w3.heap.size]? = some (.cells #[.int .i64 n, .slice (some ⟨g, 0, none⟩) m m] 51 (0, 0)) := by rw [← hw4]; exact heap_alloc_new _ _
    have U4 := Lib.hid (hU.below b34 hU.lt)
    have gl : g < w3.heap.size := hU.lt
    obtain ⟨d0, d1, f0, f1⟩ := cells2 w4 (B + 1) _ _ _ R4
    obtain ⟨J, hJ⟩ : ∃ J, w3.heap.size = J := ⟨_, rfl⟩
    rw [hJ] at N4 s3 gl
    obtain ⟨e0, e1, -, -⟩ := cells2 w4 J _ _ _ N4
    have RR4 := Lib.hid R4
    have BB4 := Lib.hid B4
    have HSF := Lib.hid hS
    clear b3 c0 c1 R3 B3 b34 R4 B4 N4 hU D hS
    by_cases q0 : idx < 0
    · have TW : inIdx idx xss.length = false := decide_eq_false (by omega)
      have V := Lib.hid (ask_range HP.out TW)
      have NT : Hid (¬ (desB n xss = true ∧ inIdx idx xss.length = true)) := fun h => by rw [TW] at h; cases h.2
      have t0 : decide (idx < 0) = true := decide_eq_true q0
      have q0 := Lib.hid q0
      clear TW
      go_wp2
      try rw [hw4]
      exact EN.out _ 2 RR4.out BB4.out NT.out V.out _ rfl rfl rfl
    have t0 : decide (idx < 0) = false := decide_eq_false q0
    by_cases q1 : (m : Int) ≤ idx
    · have TW : inIdx idx xss.length = false := decide_eq_false (by omega)
      have V := Lib.hid (ask_range HP.out TW)
      have NT : Hid (¬ (desB n xss = true ∧ inIdx idx xss.length = true)) := fun h => by rw [TW] at h; cases h.2
      have t1 : decide (idx ≥ (m : Int)) = true := decide_eq_true q1
      have t1' : decide ((m : Int) ≤ idx) = true := decide_eq_true q1
      have q1 := Lib.hid q1
      clear TW
      go_wp2
      try rw [hw4]
      exact EN.out _ 2 RR4.out BB4.out NT.out V.out _ rfl rfl rfl
    have t1 : decide (idx ≥ (m : Int)) = false := decide_eq_false q1
    have t1' : decide ((m : Int) ≤ idx) = false := decide_eq_false q1
    have TW : inIdx idx xss.length = true := decide_eq_true ⟨by omega, by omega⟩
    have V := Lib.hid (ask_ok HP.out TW)
    have HT := Lib.hid TW
    obtain ⟨k, rfl⟩ : ∃ k : Nat, idx = k := ⟨idx.toNat, by omega⟩
    have hk : k < m := by omega
    have j0 : (0 : Int) ≤ (k : Int) := by omega
    have j1 : (k : Int) < (m : Int) := by omega
    have u1 := U4.out.cell k hk
    obtain ⟨sk, hsk⟩ : ∃ sk, S k = sk := ⟨_, rfl⟩
    have HSK := Lib.hid hsk
    rw [hsk] at u1
    clear hsk TW
    have FAR : Hid (∀ q o, q ≠ B + 1 → (((w4.setCell ⟨B + 1, 0, none⟩ (.int .i64 n)).setCell ⟨B + 1, 1, none⟩ (.slice (some ⟨g, 0, none⟩) m m)).drew).cell? ⟨q, o, none⟩ = w4.cell? ⟨q, o, none⟩) := fun q o h => by
      show ((w4.setCell ⟨B + 1, 0, none⟩ (.int .i64 n)).setCell ⟨B + 1, 1, none⟩ (.slice (some ⟨g, 0, none⟩) m m)).cell? ⟨q, o, none⟩ = _
      rw [World.cell?_setCell_far _ _ _ _ (fun e => h e.symm), World.cell?_setCell_far _ _ _ _ (fun e => h e.symm)]
    have EQ : Hid (((w4.setCell ⟨B + 1, 0, none⟩ (.int .i64 n)).setCell ⟨B + 1, 1, none⟩ (.slice (some ⟨g, 0, none⟩) m m)).drew = (w4.drew.setCell ⟨B + 1, 0, none⟩ (.int .i64 n)).setCell ⟨B + 1, 1, none⟩ (.slice (some ⟨g, 0, none⟩) m m)) := rfl
    go_wp2
    try rw [hw4]
    refine wp_region_held_drew (S := fun w' => w'.cell? ⟨J, 0, none⟩ = some (.int .i64 n) ∧ w'.cell? ⟨J, 1, none⟩ = some (.slice (some ⟨g, 0, none⟩) m m) ∧ w'.cell? ⟨g, k, none⟩ = some (.int .u32 (sk : Nat))) (by kernel_rfl) ⟨e0, e1, u1⟩ (fun hHeld => ?_)
    refine wpAnyH_take (i := 0) (oi := { dst := some 27, op := Op.load 51 (Operand.tmp 7), type := 51, pos := "l10_designs.go:302", after := #[], guard := none }) (v := ?_) rfl (by kernel_rfl) (by kernel_rfl) (by kernel_rfl) (fun _ _ _ h => h) (Or.inl ⟨by rfl, ?_⟩) (by assumption) ?_
    rotate_left
    · intro w hSw; (try dsimp only at hSw); go_simp
      try with_reducible rfl
    simp only [Act.put, List.setIfInBounds_toArray, List.set_cons_zero, List.set_cons_succ]
    refine wpAnyH_take (i := 1) (oi := { dst := some 28, op := Op.fieldAddr 51 (Operand.tmp 7) 1, type := 0, pos := "l10_designs.go:302", after := #[{ on := 6, ground := Ground.gcOnly Departure.lateStores }], guard := none }) (v := ?_) rfl (by kernel_rfl) (by kernel_rfl) (by kernel_rfl) (fun _ _ _ h => h) (Or.inl ⟨by rfl, ?_⟩) (by assumption) ?_
    rotate_left
    · intro w hSw; (try dsimp only at hSw); go_simp
      try with_reducible rfl
    simp only [Act.put, List.setIfInBounds_toArray, List.set_cons_zero, List.set_cons_succ]
    refine wpAnyH_take (i := 2) (oi := { dst := some 29, op := Op.load 45 (Operand.tmp 28), type := 45, pos := "l10_designs.go:302", after := #[{ on := 1, ground := Ground.data }, { on := 6, ground := Ground.gcOnly Departure.lateStores }], guard := none }) (v := ?_) rfl (by kernel_rfl) (by kernel_rfl) (by kernel_rfl) (fun _ _ _ h => h) (Or.inl ⟨by rfl, ?_⟩) (by assumption) ?_
    rotate_left
    · intro w hSw; (try dsimp only at hSw); go_simp
      try with_reducible rfl
    simp only [Act.put, List.setIfInBounds_toArray, List.set_cons_zero, List.set_cons_succ]
    refine wpAnyH_take (i := 3) (oi := { dst := some 30, op := Op.move (Operand.tmp 1), type := 2, pos := "l10_designs.go:302", after := #[{ on := 6, ground := Ground.gcOnly Departure.lateStores }], guard := none }) (v := ?_) rfl (by kernel_rfl) (by kernel_rfl) (by kernel_rfl) (fun _ _ _ h => h) (Or.inl ⟨by rfl, ?_⟩) (by assumption) ?_
    rotate_left
    · intro w hSw; (try dsimp only at hSw); go_simp
      try with_reducible rfl
    simp only [Act.put, List.setIfInBounds_toArray, List.set_cons_zero, List.set_cons_succ]
    refine wpAnyH_take (i := 4) (oi := { dst := some 31, op := Op.indexAddr 45 (Operand.tmp 29) (Operand.tmp 30), type := 0, pos := "l10_designs.go:302", after := #[{ on := 2, ground := Ground.data }, { on := 3, ground := Ground.data }, { on := 6, ground := Ground.gcOnly Departure.lateStores }], guard := none }) (v := ?_) rfl (by kernel_rfl) (by kernel_rfl) (by kernel_rfl) (fun _ _ _ h => h) (Or.inl ⟨by rfl, ?_⟩) (by assumption) ?_
    rotate_left
    · intro w hSw; (try dsimp only at hSw); go_simp
      try with_reducible rfl
    simp only [Act.put, List.setIfInBounds_toArray, List.set_cons_zero, List.set_cons_succ]
    refine wpAnyH_take (i := 5) (oi := { dst := some 32, op := Op.load 53 (Operand.tmp 31), type := 53, pos := "l10_designs.go:302", after := #[{ on := 4, ground := Ground.data }, { on := 6, ground := Ground.gcOnly Departure.lateStores }], guard := none }) (v := ?_) rfl (by kernel_rfl) (by kernel_rfl) (by kernel_rfl) (fun _ _ _ h => h) (Or.inl ⟨by rfl, ?_⟩) (by assumption) ?_
    rotate_left
    · intro w hSw; (try dsimp only at hSw); go_simp
      try with_reducible rfl
    simp only [Act.put, List.setIfInBounds_toArray, List.set_cons_zero, List.set_cons_succ]
    refine wpAnyH_ready (rs := [6]) (by kernel_rfl) (by simp) ?_
    refine AllReadyH.cons rfl (fun K' hK' => ?_) AllReadyH.nil
    go_simp
    refine hK'.out _ _ ⟨(FAR.out J 0 (by omega)).trans e0, (FAR.out J 1 (by omega)).trans e1, (FAR.out g k (by omega)).trans u1⟩ (fun hHeld => ?_)
    clear hK' K'
    refine wpAnyH_take (i := 7) (oi := { dst := some 5, op := Op.assign (Operand.tmp 32), type := 53, pos := "l10_designs.go:302", after := #[{ on := 5, ground := Ground.data }, { on := 6, ground := Ground.chain }, { on := 0, ground := Ground.phase }, { on := 1, ground := Ground.phase }, { on := 2, ground := Ground.phase }, { on := 3, ground := Ground.phase }, { on := 4, ground := Ground.phase }, { on := 5, ground := Ground.phase }, { on := 6, ground := Ground.phase }], guard := none }) (v := ?_) rfl (by kernel_rfl) (by kernel_rfl) (by kernel_rfl) (fun _ _ _ h => h) (Or.inl ⟨by rfl, ?_⟩) (by assumption) ?_
    rotate_left
    · intro w hSw; (try dsimp only at hSw); go_simp
      try with_reducible rfl
    simp only [Act.put, List.setIfInBounds_toArray, List.set_cons_zero, List.set_cons_succ]
    refine wpAnyH_take (i := 8) (oi := { dst := some 6, op := Op.assign (Operand.const (Value.int IntKind.i64 0)), type := 2, pos := "l10_designs.go:302", after := #[{ on := 7, ground := Ground.chain }, { on := 0, ground := Ground.phase }, { on := 1, ground := Ground.phase }, { on := 2, ground := Ground.phase }, { on := 3, ground := Ground.phase }, { on := 4, ground := Ground.phase }, { on := 5, ground := Ground.phase }, { on := 6, ground := Ground.phase }, { on := 7, ground := Ground.phase }], guard := none }) (v := ?_) rfl (by kernel_rfl) (by kernel_rfl) (by kernel_rfl) (fun _ _ _ h => h) (Or.inl ⟨by rfl, ?_⟩) (by assumption) ?_
    rotate_left
    · intro w hSw; (try dsimp only at hSw); go_simp
      try with_reducible rfl
    simp only [Act.put, List.setIfInBounds_toArray, List.set_cons_zero, List.set_cons_succ]
    refine wpAnyH_done (by kernel_rfl) ?_ _
    clear hHeld
    go_wp2
    try rw [EQ.out]
    refine endsI (fn := Tryd.f35) (i := 4) (j := 5) (l := 6) rfl w4.drew (B + 1) _ _ (show w4.drew.heap[B + 1]? = _ from RR4.out) _ _ _ _ _ ⟨_, sk, by rw [V.out]; rfl, ⟨fun h => absurd ⟨HP.out, HT.out⟩ h, fun _ => ⟨g, S, by rw [HM.out], by have := HB.out; omega, ?_, by rw [HM.out]; exact HSF.out, by rw [Int.toNat_natCast]; exact HSK.out.symm⟩⟩, ?_⟩ _ rfl rfl rfl
    · rw [HM.out]
      exact (Below.heap_setCell _ _ _ g (by show g ≠ B + 1; omega)).trans ((Below.heap_setCell _ _ _ g (by show g ≠ B + 1; omega)).trans (show w4.drew.heap[g]? = _ from U4.out))
    · rw [HB.out]
      exact (BB4.out.drew.setCell (p := ⟨B + 1, 0, none⟩) (Nat.le_succ B) _).setCell (p := ⟨B + 1, 1, none⟩) (Nat.le_succ B) _
end

/-! Derived and residual designs: the program's. -/
section
open Go.RowKit Go.Shelf
set_option linter.unusedVariables false
set_option linter.unusedSimpArgs false

theorem dp_ask {n : Int} {xss : List (List Int)} {idx : Int} (ys : List Int) (h : ¬ (desB n xss = true ∧ inIdx idx xss.length = true)) : dpN n xss idx ys = 0 ∧ dpL n xss idx ys = [] ∧ dpC n xss idx ys = askC n xss idx ∧ askC n xss idx ≠ 0 := by
  cases hp : desB n xss with
  | false =>
    obtain ⟨a, b, c⟩ := dp_no idx ys hp
    have d := ask_no idx hp
    exact ⟨a, b, by rw [c, d], by rw [d]; decide⟩
  | true =>
    cases h2 : inIdx idx xss.length with
    | false =>
      obtain ⟨a, b, c⟩ := dp_range ys hp h2
      have d := ask_range hp h2
      exact ⟨a, b, by rw [c, d], by rw [d]; decide⟩
    | true => exact absurd ⟨hp, h2⟩ h
/-- The points of a block, and those outside of it. -/
def insY (xss : List (List Int)) (idx : Int) : List Int := xss.getD idx.toNat []
def outY (n : Int) (xss : List (List Int)) (idx : Int) : List Int := fls n.toNat (fun i => !decide ((i : Int) ∈ xss.getD idx.toNat []))
theorem ibelowD (n : Nat) (hn : n ≤ 32) (w : World) : Calls Tryd.prog 39 #[.int .i64 n] w fun e w' => e = .returned (.int .u32 ((2 ^ n - 1 : Nat) : Int)) ∧ w' = w := by
  have key : ∀ k : Nat, k < 33 → k = 0 ∨ k = 1 ∨ k = 2 ∨ k = 3 ∨ k = 4 ∨ k = 5 ∨ k = 6 ∨ k = 7 ∨ k = 8 ∨ k = 9 ∨ k = 10 ∨ k = 11 ∨ k = 12 ∨ k = 13 ∨ k = 14 ∨ k = 15 ∨ k = 16 ∨ k = 17 ∨ k = 18 ∨ k = 19 ∨ k = 20 ∨ k = 21 ∨ k = 22 ∨ k = 23 ∨ k = 24 ∨ k = 25 ∨ k = 26 ∨ k = 27 ∨ k = 28 ∨ k = 29 ∨ k = 30 ∨ k = 31 ∨ k = 32 := by omega
  rcases key n (by omega) with rfl | rfl | rfl | rfl | rfl | rfl | rfl | rfl | rfl | rfl | rfl | rfl | rfl | rfl | rfl | rfl | rfl | rfl | rfl | rfl | rfl | rfl | rfl | rfl | rfl | rfl | rfl | rfl | rfl | rfl | rfl | rfl | rfl <;>
  · go_enter Tryd.func39, Tryd.ntmps39
    go_wp2
    go_ret
    exact ⟨rfl, rfl⟩
theorem outY_pts {N s z : Nat} {xs : List Int} (hN : N ≤ 32) (hs : ∀ k : Nat, s.testBit k = decide ((k : Int) ∈ xs)) (hz : OpOut (fun a b => a && !b) (2 ^ N - 1) s z) : fls 32 (fun k => z.testBit k) = fls N (fun i => !decide ((i : Int) ∈ xs)) :=
  pts_fls (x := z) hN fun i => by rw [hz.2 i, Nat.testBit_two_pow_sub_one, hs]

set_option maxRecDepth 100000 in
set_option maxHeartbeats 1000000 in
theorem iDerivedDesign (n : Int) (xss : List (List Int)) (idx : Int) (hx : xss.length ≤ 1048576) (w : World) (v : Value) (hv : RowsAt w v xss) (ht : Tab w) :
    Calls Tryd.prog 15 #[.agg #[.int .i64 n, v], .int .i64 idx] w fun e w' => ∃ z, e = .returned (.tuple #[.agg #[.int .i64 (dpN n xss idx (insY xss idx)), z], .int .i64 (dpC n xss idx (insY xss idx))]) ∧ RowsL w' w.heap.size w'.heap.size z (dpL n xss idx (insY xss idx)) ∧ Below w.heap.size w w' := by
  obtain ⟨va, cap, rfl, -⟩ := hv.shape
  obtain ⟨m, hm⟩ : ∃ m, xss.length = m := ⟨_, rfl⟩
  rw [hm] at hv ⊢
  have HM := Lib.hid hm
  obtain ⟨B, hB⟩ : ∃ B, w.heap.size = B := ⟨_, rfl⟩
  have hpos : 0 < B := by rw [← hB]; exact ht.pos
  obtain ⟨w1, hw1⟩ : ∃ w1, w.alloc (.cells #[.int .i64 n, .slice va m cap] 24) = w1 := ⟨_, rfl⟩
  have z1 : w1.heap.size = B + 1 := by rw [← hw1, World.size_alloc, hB]
  have b1 : Below B w w1 := by rw [← hw1]; exact (Below.refl _ _).alloc (by omega) _
  have A1 : w1.heap[B]? = some (.cells #[.int .i64 n, .slice va m cap] 24 (0, 0)) := by rw [← hw1, ← hB]; exact heap_alloc_new _ _
  obtain ⟨w2, hw2⟩ : ∃ w2, w1.alloc (.cells #[.int .i64 0, .slice none 0 0] 24) = w2 := ⟨_, rfl⟩
  have z2 : w2.heap.size = B + 2 := by rw [← hw2, World.size_alloc, z1]
  have b12 : Below (B + 1) w1 w2 := by rw [← hw2]; exact (Below.refl _ _).alloc (Nat.le_of_eq z1.symm) _
  have b2 : Below B w w2 := b1.trans (b12.mono (Nat.le_succ B))
  have R2 : w2.heap[B + 1]? = some (.cells #[.int .i64 0, .slice none 0 0] 24 (0, 0)) := by rw [← hw2, ← z1]; exact heap_alloc_new _ _
  have A2 := (b12.block B (Nat.lt_succ_self B)).trans A1
  obtain ⟨c0, c1, -, -⟩ := cells2 w2 B _ _ _ A2
  have HO := Lib.hid (iblockOf n xss idx hx w2 _ (hv.below b2 (by omega)) (ht.below b2 hpos))
  rw [z2] at HO
  have HB := Lib.hid hB
  have B2 := Lib.hid b2
  have HR2 := Lib.hid R2
  have TB := Lib.hid ht
  have EN : Hid (∀ (W : World) (cd : Int), W.heap[B + 1]? = some (.cells #[.int .i64 0, .slice none 0 0] 24 (0, 0)) → Below B w W → dpN n xss idx (insY xss idx) = 0 ∧ dpL n xss idx (insY xss idx) = [] ∧ dpC n xss idx (insY xss idx) = cd → ∀ (tmps : Array Value), tmps.getD 4 undef = .pointer (some ⟨B + 1, 0, none⟩) → tmps.getD 5 undef = .int .i64 cd →
      bodyPost Tryd.prog Tryd.f15 (fun e w' => ∃ z, e = .returned (.tuple #[.agg #[.int .i64 (dpN n xss idx (insY xss idx)), z], .int .i64 (dpC n xss idx (insY xss idx))]) ∧ RowsL w' w.heap.size w'.heap.size z (dpL n xss idx (insY xss idx)) ∧ Below w.heap.size w w') Exit.ret { tmps := tmps, defers := [] } ((W.setCell ⟨B + 1, 0, none⟩ (.int .i64 0)).setCell ⟨B + 1, 1, none⟩ (.slice none 0 0))) := fun W cd hk hb hf tmps t2 t3 => by
    refine endsD (fn := Tryd.f15) (i := 4) (j := 5) rfl W (B + 1) _ _ hk _ _ _ _ ⟨.slice none 0 0, by rw [hf.1, hf.2.2], ?_, ?_⟩ tmps t2 t3
    · rw [hf.2.1]; exact RowsL.nil _ _ _ (Nat.le_refl _)
    · rw [HB.out]
      exact (hb.setCell (p := ⟨B + 1, 0, none⟩) (Nat.le_succ B) _).setCell (p := ⟨B + 1, 1, none⟩) (Nat.le_succ B) _
  clear hv A1 b1 A2 R2 b12 b2 ht
  by_cases hk : desB n xss = true ∧ inIdx idx xss.length = true
  · obtain ⟨hp, h2⟩ := hk
    have HK := Lib.hid (And.intro hp h2)
    have D := of_desB hp
    obtain ⟨N, rfl⟩ : ∃ N : Nat, n = N := ⟨n.toNat, by have := D.1; omega⟩
    have n32 : N ≤ 32 := by have := D.2.1; omega
    have m128 : m ≤ 128 := by have := D.2.2.1; omega
    obtain ⟨k0, k1⟩ := of_decide_eq_true h2
    obtain ⟨k, rfl⟩ : ∃ k : Nat, idx = k := ⟨idx.toNat, by omega⟩
    have hkm : k < m := by omega
    have BK := (D.2.2.2 k (by omega)).1
    have A0 := ask_ok hp h2
    rw [A0] at HO
    have HD := Lib.hid D
    clear D A0 k0 k1
    go_enter Tryd.func15, Tryd.ntmps15
    go_wp2_with fail
    try rw [hw1]
    try rw [z1]
    try rw [hw2]
    refine HO.out.mono ?_
    rintro e w3 ⟨z, s, rfl, ⟨-, hz⟩, b3⟩
    obtain ⟨g, S, rfl, hg, hU, hS, hs⟩ := hz HK.out
    rw [Int.toNat_natCast] at hs
    rw [hm] at hU hS ⊢
    have s3 : B + 2 ≤ w3.heap.size := by have := b3.size; omega
    have R3 := (b3.block (B + 1) (by omega)).trans HR2.out
    have B3 : Below B w w3 := B2.out.trans (b3.mono (by omega))
    obtain ⟨w4, hw4⟩ : ∃ w4, w3.alloc (.cells #[.int .i64 (N : Int), .slice (some ⟨g, 0, none⟩) m m] 51) = w4 := ⟨_, rfl⟩
    have b34 : Below w3.heap.size w3 w4 := by rw [← hw4]; exact (Below.refl _ _).alloc (Nat.le_refl _) _
    have R4 := (b34.block (B + 1) (by omega)).trans R3
    have B4 : Below B w w4 := B3.trans (b34.mono (by omega))
    have N4 : w4.heap[w3.heap.size]? = some (.cells #[.int .i64 (N : Int), .slice (some ⟨g, 0, none⟩) m m] 51 (0, 0)) := by rw [← hw4]; exact heap_alloc_new _ _
    have U4 := hU.below b34 hU.lt
    have s4 : B + 1 < w4.heap.size := by have := b34.size; omega
    obtain ⟨e0, e1, -, -⟩ := cells2 w4 _ _ _ _ N4
    have hs32 : s < 4294967296 := by rw [hs]; exact (hS k hkm).1
    have hsb : ∀ z : Nat, s.testBit z = decide ((z : Int) ∈ xss.getD k []) := fun z => by rw [hs]; exact (hS k hkm).2 z
    clear hs hz
    have hys : fls 32 (fun k => s.testBit k) = insY xss (k : Int) := blk_fls (n := (N : Int)) (by omega) BK.2 hsb
    have hne : ¬ (insY xss (k : Int)).length = 0 := by have := BK.1; unfold insY; rw [Int.toNat_natCast]; omega
    have HPt := iPart (N : Int) m g s S xss (k : Int) (insY xss (k : Int)) m128 hs32 hys w4 U4 (fun i hi => hS i hi) (TB.out.below B4 hpos)
    obtain ⟨v1, v2, v3⟩ := dp_ok hp h2 hne
    rw [hm] at v1 v2 v3
    rw [← v1, ← v2, ← v3] at HPt
    clear hys hne v1 v2 v3
    obtain ⟨qn, hqn⟩ : ∃ q, dpN (N : Int) xss (k : Int) (insY xss (k : Int)) = q := ⟨_, rfl⟩
    obtain ⟨qc, hqc⟩ : ∃ q, dpC (N : Int) xss (k : Int) (insY xss (k : Int)) = q := ⟨_, rfl⟩
    obtain ⟨ql, hql⟩ : ∃ q, dpL (N : Int) xss (k : Int) (insY xss (k : Int)) = q := ⟨_, rfl⟩
    rw [hqn, hqc, hql] at HPt
    have HQ : Hid (dpN (N : Int) xss (k : Int) (insY xss (k : Int)) = qn ∧ dpC (N : Int) xss (k : Int) (insY xss (k : Int)) = qc ∧ dpL (N : Int) xss (k : Int) (insY xss (k : Int)) = ql) := ⟨hqn, hqc, hql⟩
    have HPt := Lib.hid HPt
    have RR4 := Lib.hid R4
    have BB4 := Lib.hid B4
    have S4 : Hid (B + 1 < w4.heap.size) := s4
    clear b3 c0 c1 R3 B3 b34 R4 B4 N4 hU hS hqn hqc hql hsb U4 s4 hp h2 BK
    go_wp2_with fail
    try rw [hw4]
    refine HPt.out.mono ?_
    rintro e w9 ⟨z, rfl, hL, hO⟩
    have s4 := S4.out
    have RX : w9.heap[B + 1]? = some (.cells #[.int .i64 0, .slice none 0 0] 24 (0, 0)) := (hO.block (B + 1) s4).trans RR4.out
    have BX : Hid (Below B w w9) := BB4.out.trans (hO.mono (by omega))
    obtain ⟨ay, ly, cy, rfl⟩ : ∃ a l c, z = .slice a l c := by obtain ⟨a, c, e, -⟩ := hL.at.shape; exact ⟨a, _, c, e⟩
    obtain ⟨d0, d1, f0, f1⟩ := cells2 w9 (B + 1) _ _ _ RX
    have LX := Lib.hid hL
    have RX := Lib.hid RX
    clear hL hO
    go_wp2
    refine endsD (fn := Tryd.f15) (i := 4) (j := 5) rfl w9 (B + 1) _ _ RX.out _ _ _ _ ⟨.slice ay ly cy, by rw [HQ.out.1, HQ.out.2.1]; rfl, ?_, ?_⟩ _ rfl rfl
    · rw [HQ.out.2.2]
      exact (RowsL.off2 LX.out (show B + 1 < w4.heap.size by omega) _ _).mono (by have := HB.out; omega) (by simp [World.setCell]) (Nat.le_refl _)
    · rw [HB.out]
      exact (BX.out.setCell (p := ⟨B + 1, 0, none⟩) (Nat.le_succ B) _).setCell (p := ⟨B + 1, 1, none⟩) (Nat.le_succ B) _
  · obtain ⟨v1, v2, v3, v4⟩ := dp_ask (insY xss idx) hk
    have hk := Lib.hid hk
    obtain ⟨cd, hcd⟩ : ∃ cd, askC n xss idx = cd := ⟨_, rfl⟩
    rw [hcd] at v3 v4 HO
    have V : Hid (dpN n xss idx (insY xss idx) = 0 ∧ dpL n xss idx (insY xss idx) = [] ∧ dpC n xss idx (insY xss idx) = cd) := ⟨v1, v2, v3⟩
    have t1 : (cd != 0) = true := by simpa using v4
    clear v1 v2 v3 v4 hcd
    go_enter Tryd.func15, Tryd.ntmps15
    go_wp2_with fail
    try rw [hw1]
    try rw [z1]
    try rw [hw2]
    refine HO.out.mono ?_
    rintro e w3 ⟨z, s, rfl, ⟨hz, -⟩, b3⟩
    obtain ⟨rfl, rfl⟩ := hz hk.out
    have s3 : B + 2 ≤ w3.heap.size := by have := b3.size; omega
    have R3 := (b3.block (B + 1) (by omega)).trans HR2.out
    have B3 : Below B w w3 := B2.out.trans (b3.mono (by omega))
    have b34 : Below w3.heap.size w3 (w3.alloc (.cells #[.int .i64 0, .slice none 0 0] 51)) := (Below.refl _ _).alloc (Nat.le_refl _) _
    have R4 := (b34.block (B + 1) (by omega)).trans R3
    have B4 : Below B w (w3.alloc (.cells #[.int .i64 0, .slice none 0 0] 51)) := B3.trans (b34.mono (by omega))
    obtain ⟨d0, d1, f0, f1⟩ := cells2 (w3.alloc (.cells #[.int .i64 0, .slice none 0 0] 51)) (B + 1) _ _ _ R4
    have RR4 := Lib.hid R4
    have BB4 := Lib.hid B4
    clear b3 c0 c1 R3 B3 b34 R4 B4
    go_wp2
    exact EN.out _ cd RR4.out BB4.out V.out _ rfl rfl

set_option maxRecDepth 100000 in
set_option maxHeartbeats 1000000 in
theorem iResidualDesign (n : Int) (xss : List (List Int)) (idx : Int) (hx : xss.length ≤ 1048576) (w : World) (v : Value) (hv : RowsAt w v xss) (ht : Tab w) :
    Calls Tryd.prog 17 #[.agg #[.int .i64 n, v], .int .i64 idx] w fun e w' => ∃ z, e = .returned (.tuple #[.agg #[.int .i64 (dpN n xss idx (outY n xss idx)), z], .int .i64 (dpC n xss idx (outY n xss idx))]) ∧ RowsL w' w.heap.size w'.heap.size z (dpL n xss idx (outY n xss idx)) ∧ Below w.heap.size w w' := by
  obtain ⟨va, cap, rfl, -⟩ := hv.shape
  obtain ⟨m, hm⟩ : ∃ m, xss.length = m := ⟨_, rfl⟩
  rw [hm] at hv ⊢
  have HM := Lib.hid hm
  obtain ⟨B, hB⟩ : ∃ B, w.heap.size = B := ⟨_, rfl⟩
  have hpos : 0 < B := by rw [← hB]; exact ht.pos
  obtain ⟨w1, hw1⟩ : ∃ w1, w.alloc (.cells #[.int .i64 n, .slice va m cap] 24) = w1 := ⟨_, rfl⟩
  have z1 : w1.heap.size = B + 1 := by rw [← hw1, World.size_alloc, hB]
  have b1 : Below B w w1 := by rw [← hw1]; exact (Below.refl _ _).alloc (by omega) _
  have A1 : w1.heap[B]? = some (.cells #[.int .i64 n, .slice va m cap] 24 (0, 0)) := by rw [← hw1, ← hB]; exact heap_alloc_new _ _
  obtain ⟨w2, hw2⟩ : ∃ w2, w1.alloc (.cells #[.int .i64 0, .slice none 0 0] 24) = w2 := ⟨_, rfl⟩
  have z2 : w2.heap.size = B + 2 := by rw [← hw2, World.size_alloc, z1]
  have b12 : Below (B + 1) w1 w2 := by rw [← hw2]; exact (Below.refl _ _).alloc (Nat.le_of_eq z1.symm) _
  have b2 : Below B w w2 := b1.trans (b12.mono (Nat.le_succ B))
  have R2 : w2.heap[B + 1]? = some (.cells #[.int .i64 0, .slice none 0 0] 24 (0, 0)) := by rw [← hw2, ← z1]; exact heap_alloc_new _ _
  have A2 := (b12.block B (Nat.lt_succ_self B)).trans A1
  obtain ⟨c0, c1, -, -⟩ := cells2 w2 B _ _ _ A2
  have HO := Lib.hid (iblockOf n xss idx hx w2 _ (hv.below b2 (by omega)) (ht.below b2 hpos))
  rw [z2] at HO
  have HB := Lib.hid hB
  have B2 := Lib.hid b2
  have HR2 := Lib.hid R2
  have TB := Lib.hid ht
  have EN : Hid (∀ (W : World) (cd : Int), W.heap[B + 1]? = some (.cells #[.int .i64 0, .slice none 0 0] 24 (0, 0)) → Below B w W → dpN n xss idx (outY n xss idx) = 0 ∧ dpL n xss idx (outY n xss idx) = [] ∧ dpC n xss idx (outY n xss idx) = cd → ∀ (tmps : Array Value), tmps.getD 4 undef = .pointer (some ⟨B + 1, 0, none⟩) → tmps.getD 5 undef = .int .i64 cd →
      bodyPost Tryd.prog Tryd.f17 (fun e w' => ∃ z, e = .returned (.tuple #[.agg #[.int .i64 (dpN n xss idx (outY n xss idx)), z], .int .i64 (dpC n xss idx (outY n xss idx))]) ∧ RowsL w' w.heap.size w'.heap.size z (dpL n xss idx (outY n xss idx)) ∧ Below w.heap.size w w') Exit.ret { tmps := tmps, defers := [] } ((W.setCell ⟨B + 1, 0, none⟩ (.int .i64 0)).setCell ⟨B + 1, 1, none⟩ (.slice none 0 0))) := fun W cd hk hb hf tmps t2 t3 => by
    refine endsD (fn := Tryd.f17) (i := 4) (j := 5) rfl W (B + 1) _ _ hk _ _ _ _ ⟨.slice none 0 0, by rw [hf.1, hf.2.2], ?_, ?_⟩ tmps t2 t3
    · rw [hf.2.1]; exact RowsL.nil _ _ _ (Nat.le_refl _)
    · rw [HB.out]
      exact (hb.setCell (p := ⟨B + 1, 0, none⟩) (Nat.le_succ B) _).setCell (p := ⟨B + 1, 1, none⟩) (Nat.le_succ B) _
  clear hv A1 b1 A2 R2 b12 b2 ht
  by_cases hk : desB n xss = true ∧ inIdx idx xss.length = true
  · obtain ⟨hp, h2⟩ := hk
    have HK := Lib.hid (And.intro hp h2)
    have D := of_desB hp
    obtain ⟨N, rfl⟩ : ∃ N : Nat, n = N := ⟨n.toNat, by have := D.1; omega⟩
    have n32 : N ≤ 32 := by have := D.2.1; omega
    have m128 : m ≤ 128 := by have := D.2.2.1; omega
    obtain ⟨k0, k1⟩ := of_decide_eq_true h2
    obtain ⟨k, rfl⟩ : ∃ k : Nat, idx = k := ⟨idx.toNat, by omega⟩
    have hkm : k < m := by omega
    have BK := (D.2.2.2 k (by omega)).1
    have A0 := ask_ok hp h2
    rw [A0] at HO
    have HD := Lib.hid D
    clear D A0 k0 k1
    go_enter Tryd.func17, Tryd.ntmps17
    go_wp2_with fail
    try rw [hw1]
    try rw [z1]
    try rw [hw2]
    refine HO.out.mono ?_
    rintro e w3 ⟨z, s, rfl, ⟨-, hz⟩, b3⟩
    obtain ⟨g, S, rfl, hg, hU, hS, hs⟩ := hz HK.out
    rw [Int.toNat_natCast] at hs
    rw [hm] at hU hS ⊢
    have s3 : B + 2 ≤ w3.heap.size := by have := b3.size; omega
    have R3 := (b3.block (B + 1) (by omega)).trans HR2.out
    have B3 : Below B w w3 := B2.out.trans (b3.mono (by omega))
    obtain ⟨w4, hw4⟩ : ∃ w4, w3.alloc (.cells #[.int .i64 (N : Int), .slice (some ⟨g, 0, none⟩) m m] 51) = w4 := ⟨_, rfl⟩
    have b34 : Below w3.heap.size w3 w4 := by rw [← hw4]; exact (Below.refl _ _).alloc (Nat.le_refl _) _
    have R4 := (b34.block (B + 1) (by omega)).trans R3
    have B4 : Below B w w4 := B3.trans (b34.mono (by omega))
    have N4 : w4.heap[w3.heap.size]? = some (.cells #[.int .i64 (N : Int), .slice (some ⟨g, 0, none⟩) m m] 51 (0, 0)) := by rw [← hw4]; exact heap_alloc_new _ _
    have U4 := hU.below b34 hU.lt
    have s4 : B + 1 < w4.heap.size := by have := b34.size; omega
    obtain ⟨e0, e1, -, -⟩ := cells2 w4 _ _ _ _ N4
    have hs32 : s < 4294967296 := by rw [hs]; exact (hS k hkm).1
    have hsb : ∀ z : Nat, s.testBit z = decide ((z : Int) ∈ xss.getD k []) := fun z => by rw [hs]; exact (hS k hkm).2 z
    clear hs hz
    have HBl := Lib.hid (fun W => ibelowD N n32 W)
    have bl32 : 2 ^ N - 1 < 4294967296 := by
      have : 2 ^ N ≤ 2 ^ 32 := Nat.pow_le_pow_right (by omega) n32
      omega
    have HMi := Lib.hid (fun W => iminus (2 ^ N - 1) s W bl32 hs32)
    clear bl32
    have PZ : Hid (∀ z, OpOut (fun a b => a && !b) (2 ^ N - 1) s z → fls 32 (fun k => z.testBit k) = outY (N : Int) xss (k : Int)) := fun z hz => by
      unfold outY; rw [Int.toNat_natCast, Int.toNat_natCast]; exact outY_pts n32 hsb hz
    have HPt0 := Lib.hid (fun z (hz : z < 4294967296) hys => iPart (N : Int) m g z S xss (k : Int) (outY (N : Int) xss (k : Int)) m128 hz hys w4 U4 (fun i hi => hS i hi) (TB.out.below B4 hpos))
    have DPE := Lib.hid (fun h3 => dp_empty (ys := outY (N : Int) xss (k : Int)) hp h2 h3)
    have DPO := Lib.hid (fun h3 => dp_ok (ys := outY (N : Int) xss (k : Int)) hp h2 h3)
    rw [hm] at DPO
    obtain ⟨bq, hbq⟩ : ∃ q, 2 ^ N - 1 = q := ⟨_, rfl⟩
    rw [hbq] at HBl HMi PZ
    clear hbq
    go_wp2_with fail
    try rw [hw4]
    refine (HBl.out _).mono ?_
    rintro e w5 ⟨rfl, ew5⟩
    have ew5 := ew5.symm
    subst ew5
    go_wp2_with fail
    refine (HMi.out _).mono ?_
    rintro e w5 ⟨zz, rfl, hzz, ew5⟩
    subst ew5
    have hy := PZ.out zz hzz
    have zz32 := hzz.1
    by_cases q0 : zz = 0
    · have E0 : (outY (N : Int) xss (k : Int)).length = 0 := by rw [← hy, q0]; simp [fls, Nat.zero_testBit]
      have V := Lib.hid (DPE.out E0)
      subst q0
      obtain ⟨d0, d1, f0, f1⟩ := cells2 w4 (B + 1) _ _ _ R4
      have RR4 := Lib.hid R4
      have BB4 := Lib.hid B4
      clear b3 c0 c1 R3 B3 b34 R4 B4 N4 hU hS hsb U4 s4 hp h2 BK E0 hy hzz
      go_wp2
      exact EN.out _ 6 RR4.out BB4.out V.out _ rfl rfl
    have t0 : ((zz : Int) == 0) = false := by simp; exact q0
    have t0' : (zz == 0) = false := by simpa using q0
    have hne : ¬ (outY (N : Int) xss (k : Int)).length = 0 := fun h => by
      have e := List.eq_nil_of_length_eq_zero h
      rw [← hy] at e
      exact q0 ((ptsN_nil zz zz32).1 e)
    have HPt := HPt0.out zz zz32 hy
    obtain ⟨v1, v2, v3⟩ := DPO.out hne
    rw [← v1, ← v2, ← v3] at HPt
    clear hy hne v1 v2 v3 hzz HPt0 DPO DPE PZ
    obtain ⟨qn, hqn⟩ : ∃ q, dpN (N : Int) xss (k : Int) (outY (N : Int) xss (k : Int)) = q := ⟨_, rfl⟩
    obtain ⟨qc, hqc⟩ : ∃ q, dpC (N : Int) xss (k : Int) (outY (N : Int) xss (k : Int)) = q := ⟨_, rfl⟩
    obtain ⟨ql, hql⟩ : ∃ q, dpL (N : Int) xss (k : Int) (outY (N : Int) xss (k : Int)) = q := ⟨_, rfl⟩
    rw [hqn, hqc, hql] at HPt
    have HQ : Hid (dpN (N : Int) xss (k : Int) (outY (N : Int) xss (k : Int)) = qn ∧ dpC (N : Int) xss (k : Int) (outY (N : Int) xss (k : Int)) = qc ∧ dpL (N : Int) xss (k : Int) (outY (N : Int) xss (k : Int)) = ql) := ⟨hqn, hqc, hql⟩
    have HPt := Lib.hid HPt
    have RR4 := Lib.hid R4
    have BB4 := Lib.hid B4
    have S4 : Hid (B + 1 < w4.heap.size) := s4
    clear b3 c0 c1 R3 B3 b34 R4 B4 N4 hU hS hqn hqc hql hsb U4 s4 hp h2 BK
    go_wp2_with fail
    refine HPt.out.mono ?_
    rintro e w9 ⟨z, rfl, hL, hO⟩
    have s4 := S4.out
    have RX : w9.heap[B + 1]? = some (.cells #[.int .i64 0, .slice none 0 0] 24 (0, 0)) := (hO.block (B + 1) s4).trans RR4.out
    have BX : Hid (Below B w w9) := BB4.out.trans (hO.mono (by omega))
    obtain ⟨ay, ly, cy, rfl⟩ : ∃ a l c, z = .slice a l c := by obtain ⟨a, c, e, -⟩ := hL.at.shape; exact ⟨a, _, c, e⟩
    obtain ⟨d0, d1, f0, f1⟩ := cells2 w9 (B + 1) _ _ _ RX
    have LX := Lib.hid hL
    have RX := Lib.hid RX
    clear hL hO
    go_wp2
    refine endsD (fn := Tryd.f17) (i := 4) (j := 5) rfl w9 (B + 1) _ _ RX.out _ _ _ _ ⟨.slice ay ly cy, by rw [HQ.out.1, HQ.out.2.1]; rfl, ?_, ?_⟩ _ rfl rfl
    · rw [HQ.out.2.2]
      exact (RowsL.off2 LX.out (show B + 1 < w4.heap.size by omega) _ _).mono (by have := HB.out; omega) (by simp [World.setCell]) (Nat.le_refl _)
    · rw [HB.out]
      exact (BX.out.setCell (p := ⟨B + 1, 0, none⟩) (Nat.le_succ B) _).setCell (p := ⟨B + 1, 1, none⟩) (Nat.le_succ B) _
  · obtain ⟨v1, v2, v3, v4⟩ := dp_ask (outY n xss idx) hk
    have hk := Lib.hid hk
    obtain ⟨cd, hcd⟩ : ∃ cd, askC n xss idx = cd := ⟨_, rfl⟩
    rw [hcd] at v3 v4 HO
    have V : Hid (dpN n xss idx (outY n xss idx) = 0 ∧ dpL n xss idx (outY n xss idx) = [] ∧ dpC n xss idx (outY n xss idx) = cd) := ⟨v1, v2, v3⟩
    have t1 : (cd != 0) = true := by simpa using v4
    clear v1 v2 v3 v4 hcd
    go_enter Tryd.func17, Tryd.ntmps17
    go_wp2_with fail
    try rw [hw1]
    try rw [z1]
    try rw [hw2]
    refine HO.out.mono ?_
    rintro e w3 ⟨z, s, rfl, ⟨hz, -⟩, b3⟩
    obtain ⟨rfl, rfl⟩ := hz hk.out
    have s3 : B + 2 ≤ w3.heap.size := by have := b3.size; omega
    have R3 := (b3.block (B + 1) (by omega)).trans HR2.out
    have B3 : Below B w w3 := B2.out.trans (b3.mono (by omega))
    have b34 : Below w3.heap.size w3 (w3.alloc (.cells #[.int .i64 0, .slice none 0 0] 51)) := (Below.refl _ _).alloc (Nat.le_refl _) _
    have R4 := (b34.block (B + 1) (by omega)).trans R3
    have B4 : Below B w (w3.alloc (.cells #[.int .i64 0, .slice none 0 0] 51)) := B3.trans (b34.mono (by omega))
    obtain ⟨d0, d1, f0, f1⟩ := cells2 (w3.alloc (.cells #[.int .i64 0, .slice none 0 0] 51)) (B + 1) _ _ _ R4
    have RR4 := Lib.hid R4
    have BB4 := Lib.hid B4
    clear b3 c0 c1 R3 B3 b34 R4 B4
    go_wp2
    exact EN.out _ cd RR4.out BB4.out V.out _ rfl rfl
end
end Go.Proofs.YtanfodbpgpfjmaaDoor
