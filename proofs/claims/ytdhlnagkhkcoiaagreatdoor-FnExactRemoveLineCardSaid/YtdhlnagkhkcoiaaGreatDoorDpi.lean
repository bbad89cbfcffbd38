/- What other blocks have in a set of points (partOf): the program's. -/
import Derived.Test.YtdhlnagkhkcoiaaGreatDoorDsm
import Derived.StillTailTactics
import Derived.Test.YtdhlnagkhkcoiaaGreatDoorCom
namespace Go.Proofs.YtdhlnagkhkcoiaaGreatDoor
open Go.RowKit Go.Shelf
set_option linter.unusedVariables false
set_option linter.unusedSimpArgs false

/-! ### has, renumbered -/
theorem pow_lt32 {z : Nat} (hz : z < 32) : 2 ^ z < 4294967296 := by
  have : 2 ^ z < 2 ^ 32 := Nat.pow_lt_pow_right (by omega) hz
  omega
theorem and_pow_ne' (s z : Nat) : (((s &&& 2 ^ z : Nat) : Int) != 0) = s.testBit z := by
  cases e : s.testBit z with
  | true =>
    have : ¬ s &&& 2 ^ z = 0 := fun h => by
      have k : (s &&& 2 ^ z).testBit z = true := by rw [Nat.testBit_and, e, Nat.testBit_two_pow, decide_eq_true rfl]; rfl
      rw [h, Nat.zero_testBit] at k; cases k
    have h2 : ¬ (((s &&& 2 ^ z : Nat) : Int) = 0) := by omega
    simpa using h2
  | false =>
    have : s &&& 2 ^ z = 0 := Nat.eq_of_testBit_eq fun i => by
      rw [Nat.testBit_and, Nat.testBit_two_pow, Nat.zero_testBit]
      by_cases c : z = i
      · rw [← c, e]; rfl
      · rw [decide_eq_false c, Bool.and_false]
    rw [this]; rfl
theorem ihasd (s z : Nat) (hs : s < 4294967296) (hz : z < 32) (w : World) :
    Calls Tryz.prog 111 #[.int .u32 s, .int .i64 z] w fun e w' => e = .returned (.bool (s.testBit z)) ∧ w' = w := by
  have H := Lib.hid (isingle z hz w)
  have e1 := u32_and s (2 ^ z) hs (pow_lt32 hz)
  have e2 := and_pow_ne' s z
  obtain ⟨p, hp⟩ : ∃ p, 2 ^ z = p := ⟨_, rfl⟩
  rw [hp] at H e1 e2
  obtain ⟨q, hq⟩ : ∃ q, s &&& p = q := ⟨_, rfl⟩
  rw [hq] at e1 e2
  obtain ⟨b, hb⟩ : ∃ b, s.testBit z = b := ⟨_, rfl⟩
  rw [hb] at e2 ⊢
  clear hp hq hb hs hz
  go_enter Tryz.func111, Tryz.ntmps111
  go_wp2_with fail
  refine H.out.mono ?_
  rintro e w' ⟨rfl, rfl⟩
  go_wp2
  go_ret
  exact ⟨rfl, rfl⟩

/-- The bits of the places of some points in a set. -/
def Ren (s : Nat) (ys : List Int) (j r : Nat) : Prop := r < 4294967296 ∧ ∀ i, r.testBit i = (decide (i < j) && s.testBit (ys.getD i 0).toNat)
set_option maxRecDepth 100000 in
set_option maxHeartbeats 1000000 in
theorem irenum (s : Nat) (hs : s < 4294967296) (ys : List Int) (hl : ys.length ≤ 32) (hy : ∀ i, i < ys.length → 0 ≤ ys.getD i 0 ∧ ys.getD i 0 ≤ 31) (w : World) (v : Value) (hv : IntsAt w v ys) :
    Calls Tryz.prog 83 #[.int .u32 s, v] w fun e w' => ∃ r : Nat, e = .returned (.int .u32 r) ∧ Ren s ys ys.length r ∧ w' = w := by
  obtain ⟨a, cap, rfl, hml, hc⟩ := hv.shape
  obtain ⟨m, hm⟩ : ∃ m, ys.length = m := ⟨_, rfl⟩
  rw [hm] at hl hy hc hml ⊢
  have HC := Lib.hid hc
  have HY := Lib.hid hy
  have HH := Lib.hid (fun z (hz : z < 32) W => ihasd s z hs hz W)
  have R0 : Hid (Ren s ys 0 0) := ⟨by omega, fun i => by rw [Nat.zero_testBit]; rfl⟩
  clear hv hc hy hm
  go_enter Tryz.func83, Tryz.ntmps83
  go_wp2
  go_loop [5, 10] (fun p i => ∃ j r : Nat, j ≤ m ∧ p = .int .u32 (r : Int) ∧ i = .int .i64 j ∧ Hid (Ren s ys j r)) (fun _ i => m - (intOf i).toNat)
  case atStart => exact ⟨0, 0, by omega, rfl, rfl, R0⟩
  case round =>
    obtain ⟨j, r, hj, rfl, rfl, hR⟩ := hrel
    by_cases c : j < m
    · have g1 : decide (j < m) = true := by simpa using c
      have g1' : decide ((j : Int) < (m : Int)) = true := decide_eq_true (by omega)
      have w3 := IntWalk.i64_in ((j : Int) + 1) (by omega)
      have j0 : (0 : Int) ≤ (j : Int) := by omega
      have j1 : (j : Int) < (m : Int) := by omega
      obtain ⟨g, off, rfl, cj⟩ := HC.out j c
      obtain ⟨y0, y1⟩ := HY.out j c
      obtain ⟨z, hz⟩ : ∃ z : Nat, ys.getD j 0 = z := ⟨(ys.getD j 0).toNat, by omega⟩
      have HZ := Lib.hid hz
      rw [hz] at cj y0 y1
      have HHz := Lib.hid (HH.out z (by omega))
      clear hz
      cases hb : s.testBit z with
      | true =>
        simp only [hb] at HHz
        have HS := Lib.hid (isingle j (by omega) w)
        have HU := Lib.hid (iunion r (2 ^ j) w hR.out.1 (pow_lt32 (by omega)))
        have RN : Hid (∀ x, OpOut (fun a b => a || b) r (2 ^ j) x → Ren s ys (j + 1) x) := fun x hx => ⟨hx.1, fun i => by
          rw [hx.2 i, hR.out.2 i, Nat.testBit_two_pow]
          show ((decide (i < j) && s.testBit (ys.getD i 0).toNat) || decide (j = i)) = _
          by_cases e : i = j
          · subst e; rw [decide_eq_true rfl, decide_eq_true (show i < i + 1 by omega), HZ.out, Int.toNat_natCast, hb, Bool.or_true]; rfl
          · rw [decide_eq_false (show ¬ j = i by omega), Bool.or_false]
            by_cases l : i < j
            · rw [decide_eq_true l, decide_eq_true (show i < j + 1 by omega)]
            · rw [decide_eq_false l, decide_eq_false (show ¬ i < j + 1 by omega)]⟩
        obtain ⟨p, hp⟩ : ∃ p, 2 ^ j = p := ⟨_, rfl⟩
        rw [hp] at HS HU RN
        clear hp hb hR
        go_wp2_with fail
        refine (HHz.out _).mono ?_
        rintro e w5 ⟨rfl, rfl⟩
        go_wp2_with fail
        refine HS.out.mono ?_
        rintro e w5 ⟨rfl, rfl⟩
        go_wp2_with fail
        refine HU.out.mono ?_
        rintro e w5 ⟨x, rfl, hx, rfl⟩
        have HX := Lib.hid (RN.out x hx)
        clear hx
        go_wp2
        go_round
        case rel => exact ⟨j + 1, x, by omega, rfl, by go_num, HX⟩
        case measure => simp [intOf]; omega
      | false =>
        simp only [hb] at HHz
        have RN : Hid (Ren s ys (j + 1) r) := ⟨hR.out.1, fun i => by
          rw [hR.out.2 i]
          by_cases e : i = j
          · subst e; rw [decide_eq_false (Nat.lt_irrefl i), decide_eq_true (show i < i + 1 by omega), HZ.out, Int.toNat_natCast, hb]; rfl
          · by_cases l : i < j
            · rw [decide_eq_true l, decide_eq_true (show i < j + 1 by omega)]
            · rw [decide_eq_false l, decide_eq_false (show ¬ i < j + 1 by omega)]⟩
        clear hb hR
        go_wp2_with fail
        refine (HHz.out _).mono ?_
        rintro e w5 ⟨rfl, rfl⟩
        go_wp2
        go_round
        case rel => exact ⟨j + 1, r, by omega, rfl, by go_num, RN⟩
        case measure => simp [intOf]; omega
    · have g1 : decide (j < m) = false := by simpa using c
      have g1' : decide ((j : Int) < (m : Int)) = false := decide_eq_false (by omega)
      obtain rfl : j = m := by omega
      go_wp2
      go_ret
      exact ⟨r, rfl, hR.out, rfl⟩

/-! ### Slices of sets that grow -/
def Us (w : World) (B : Nat) (v : Value) (L : List Nat) : Prop := w.ownsRow B 51 1 v L.length (L.map (fun x => Value.int .u32 (x : Nat)))
theorem wpList_pushU {ops : Array Oper} {rest : List Oper} {o : Oper} {a : Act} {Q : Exit → Act → World → Prop} (w : World) (hgd : o.guard = none) (s x : Operand)
    (ho : o.op = .call { callee := .builtin .append, args := #[s, x], argTypes := #[43, 43] })
    (B : Nat) (v : Value) (L : List Nat) (hs : a.eval s = v) (h : Us w B v L) (y : Nat) (T : TypeId) (hx : a.eval x = .slice (some ⟨w.heap.size, 0, none⟩) 1 1)
    (hl : L.length < 1000000000000) (hB : B ≤ w.heap.size)
    (hK : ∀ v' w', Us w' B v' (L ++ [y]) → Below B w w' → wpList Tryz.prog ops Q rest (a.put o.dst v') w') :
    wpList Tryz.prog ops Q (o :: rest) a (w.alloc (.cells #[.int .u32 (y : Nat)] T)) := by
  obtain ⟨i0, hi, hz0, hz1, hz2⟩ := info_parts Tryz.infoSet
  refine wpList_append_own _ hgd s x 43 ho B 51 i0 (.int .u32 0) 1 4 Tryz.underlying43 hi hz0 hz1 hz2 rfl (by decide) v L.length _ hs (World.ownsRow.alloc h _) ⟨w.heap.size, 0, none⟩ 1 1 [.int .u32 (y : Nat)] hx rfl ?c1 ?c2 ?c3 ?c4 ?c5 ?_
  case c1 =>
    intro j u hj
    match j, hj with
    | 0, hj => simp at hj; subst hj; simp [Addr.add]
  case c2 => intro u hu; simp at hu; subst hu; rfl
  case c3 => unfold maxLen; omega
  case c4 => omega
  case c5 => simp; omega
  intro v' w' h' hg _
  refine hK v' w' ?_ ?_
  · unfold Us
    rw [List.length_append, List.map_append]
    exact h'
  · exact ((Below.refl _ _).alloc hB _).grown hg (by simp; omega) (fun k hk => (World.ownsRow.lt h k hk).1)
theorem Us.uc {w : World} {B : Nat} {v : Value} {L : List Nat} (h : Us w B v L) : (v = .slice none 0 0 ∧ L = []) ∨ ∃ g cp, v = .slice (some ⟨g, 0, none⟩) L.length cp ∧ B ≤ g ∧ Uc w g L.length (fun i => L.getD i 0) := by
  obtain ⟨h1, ⟨rfl, h2⟩ | ⟨g, cap, cur, rfl, h3, h4, h5, h6, h7, h8⟩⟩ := h
  · exact .inl ⟨rfl, List.length_eq_zero_iff.1 h2⟩
  · refine .inr ⟨g, cap, rfl, h3, cur, _, h4, fun i hi => ?_⟩
    have e := congrArg (fun l => l[i]?) h8
    simp only [List.getElem?_take, Nat.mul_one] at e
    rw [if_pos hi] at e
    rw [← Array.getElem?_toList, e, List.getElem?_map, List.getElem?_eq_getElem hi, Option.map_some]
    show some (Value.int .u32 ((L[i] : Nat) : Int)) = some (Value.int .u32 ((L.getD i 0 : Nat) : Int))
    rw [List.getD_eq_getElem?_getD, List.getElem?_eq_getElem hi]; rfl
theorem ptsL_list (L : List Nat) : ptsL L.length (fun i => L.getD i 0) = L.map ptsN := by
  apply List.ext_getElem (by simp [ptsL])
  intro i h1 h2
  simp [ptsL] at h1
  simp [ptsL, h1]

theorem endsD {fn : Func} {i j : Nat} (hfn : fn.results = #[.cell i 26, .tmp j]) (W : World) (q : Nat) (z0 z1 : Value) (hk : W.heap[q]? = some (.cells #[z0, z1] 26 (0, 0))) (a b : Value) (o : Value) (Φ : Ending → World → Prop)
    (hΦ : Φ (.returned (.tuple #[.agg #[a, b], o])) ((W.setCell ⟨q, 0, none⟩ a).setCell ⟨q, 1, none⟩ b)) (tmps : Array Value) (t2 : tmps.getD i undef = .pointer (some ⟨q, 0, none⟩)) (t3 : tmps.getD j undef = o) :
    bodyPost Tryz.prog fn Φ Exit.ret { tmps := tmps, defers := [] } ((W.setCell ⟨q, 0, none⟩ a).setCell ⟨q, 1, none⟩ b) := by
  have R9 := set2_row W q _ _ a b _ hk
  obtain ⟨w9, hw9⟩ : ∃ w9, ((W.setCell ⟨q, 0, none⟩ a).setCell ⟨q, 1, none⟩ b) = w9 := ⟨_, rfl⟩
  rw [hw9] at R9 hΦ ⊢
  have hld := run_loadVar_row (P := Tryz.prog) _ _ 26 26 #[a, b] (0, 0) _ R9 Tryz.underlying26 rfl Tryz.infoDes
  have t2' : tmps[i]?.getD undef = .pointer (some ⟨q, 0, none⟩) := by simpa using t2
  have t3' : tmps[j]?.getD undef = o := by simpa using t3
  refine bodyPost_ret (v := .tuple #[.agg #[a, b], o]) ?_ rfl hΦ
  rw [results_cell_tmp hfn]
  simp [asAddr, Result.andThen, t2', t3', hld]
theorem cells2 (W : World) (g : Nat) (z0 z1 : Value) (T : TypeId) (h : W.heap[g]? = some (.cells #[z0, z1] T (0, 0))) :
    W.cell? ⟨g, 0, none⟩ = some z0 ∧ W.cell? ⟨g, 1, none⟩ = some z1 ∧ W.frozen? ⟨g, 0, none⟩ = false ∧ W.frozen? ⟨g, 1, none⟩ = false :=
  ⟨by rw [cell_of_row W g 0 _ _ _ h]; rfl, by rw [cell_of_row W g 1 _ _ _ h]; rfl, frozen_of_row W g 0 _ _ h, frozen_of_row W g 1 _ _ h⟩

/-! partOf: the program's. -/
section
open Go.RowKit Go.Shelf Go.Lib Go.Sort
set_option linter.unusedVariables false
set_option linter.unusedSimpArgs false

/-! ### designOf of no block -/
theorem sortL_nil : sortL [] = [] := List.eq_nil_of_length_eq_zero (by rw [(sortL_perm []).length_eq]; rfl)
theorem dx_nil (n : Int) : dxN n [] = n ∧ dxL [] = [] ∧ dxC [] = 0 := by
  unfold dxN dxL dxC
  exact ⟨rfl, sortL_nil, rfl⟩
theorem iIndexNil (w : World) :
    Calls Tryz.prog 70 #[.slice none 0 0, .int .u32 0] w fun e w' => e = .returned (.int .i64 (-1)) ∧ w' = w := by
  go_enter Tryz.func70, Tryz.ntmps70
  go_wp2
  refine wp_loop_rounds 1 ?_
  rw [rounds_succ]
  go_wp2
  go_ret
  exact ⟨rfl, rfl⟩
theorem iContainsNil (w : World) :
    Calls Tryz.prog 47 #[.slice none 0 0, .int .u32 0] w fun e w' => e = .returned (.bool false) ∧ w' = w := by
  have H := Lib.hid (iIndexNil w)
  go_enter Tryz.func47, Tryz.ntmps47
  go_wp2_with fail
  refine H.out.mono ?_
  rintro e w2 ⟨rfl, rfl⟩
  go_wp2
  go_ret
  exact ⟨rfl, rfl⟩
theorem isortNil (b : Nat) (w : World) :
    Calls Tryz.prog 48 #[.iface 43 (.slice none 0 0), .func (.func 76) #[] #[.pointer (some ⟨b, 0, none⟩)]] w fun e w' => e = .returned (.tuple #[]) ∧ Below w.heap.size w w' := by
  have key := Any.sort_Slice_tiny (P := Tryz.prog) Tryz.laysGg6 43 51 psT psE (by kernel_rfl) (by kernel_rfl) (by kernel_rfl) (by kernel_rfl) 10 (fun _ => by kernel_rfl) none 0 0 (by omega) 90 (by rw [psK, if_pos rfl]; kernel_rfl) (.func 76) #[] #[.pointer (some ⟨b, 0, none⟩)] w
  refine key.mono ?_
  rintro e w' ⟨rfl, os, rfl⟩
  refine ⟨rfl, rfl, rfl, rfl, by rw [size_grow]; exact Nat.le_add_right _ _, fun k hk => heap_grow_old _ _ hk⟩

set_option maxRecDepth 100000 in
set_option maxHeartbeats 2000000 in
theorem idesNil (n : Int) (w : World) :
    Calls Tryz.prog 25 #[.int .i64 n, .slice none 0 0] w fun e w' => ∃ z, e = .returned (.tuple #[.agg #[.int .i64 n, z], .int .i64 0]) ∧ RowsL w' w.heap.size w'.heap.size z [] ∧ Below w.heap.size w w' := by
  obtain ⟨B, hB⟩ : ∃ B, w.heap.size = B := ⟨_, rfl⟩
  obtain ⟨w0, hw0⟩ : ∃ w0, w.alloc (.cells #[.int .i64 0, .slice none 0 0] 26) = w0 := ⟨_, rfl⟩
  have b0 : Below B w w0 := by rw [← hw0]; exact (Below.refl _ _).alloc (Nat.le_of_eq hB.symm) _
  have z0 : w0.heap.size = B + 1 := by rw [← hw0, World.size_alloc, hB]
  have R0 : w0.heap[B]? = some (.cells #[.int .i64 0, .slice none 0 0] 26 (0, 0)) := by rw [← hw0, ← hB]; exact heap_alloc_new _ _
  have HC := Lib.hid (iContainsNil w0)
  have HO := Lib.hid (iorder (.slice none 0 0) w0 _ _ _ rfl)
  obtain ⟨w1, hw1⟩ : ∃ w1, w0.alloc (.cells #[.slice none 0 0] 43) = w1 := ⟨_, rfl⟩
  have b1 : Below (B + 1) w0 w1 := by rw [← hw1]; exact (Below.refl _ _).alloc (Nat.le_of_eq z0.symm) _
  have z1 : w1.heap.size = B + 2 := by rw [← hw1, World.size_alloc, z0]
  have HSO := Lib.hid (isortNil (B + 1) w1)
  rw [z0, hw1] at HO
  have B1 : Hid (Below B w w1) := b0.trans (b1.mono (by omega))
  have Z1 := Lib.hid z1
  have HB := Lib.hid hB
  have R1 : Hid (w1.heap[B]? = some (.cells #[.int .i64 0, .slice none 0 0] 26 (0, 0))) := (b1.block B (by omega)).trans R0
  clear b0 z0 R0 b1 z1
  go_enter Tryz.func25, Tryz.ntmps25
  go_wp2_with fail
  try rw [hw0]
  refine HC.out.mono ?_
  rintro e w2 ⟨rfl, rfl⟩
  clear hw0
  go_wp2_with fail
  refine HO.out.mono ?_
  rintro e w3 ⟨rfl, rfl⟩
  clear hw1
  go_wp2_with fail
  refine HSO.out.mono ?_
  rintro e w4 ⟨rfl, b4⟩
  have R4 : w4.heap[B]? = some (.cells #[.int .i64 0, .slice none 0 0] 26 (0, 0)) := (b4.block B (by have := Z1.out; omega)).trans R1.out
  have B4 : Below B w w4 := B1.out.trans (b4.mono (by have := Z1.out; omega))
  have z4 : B + 2 ≤ w4.heap.size := by have := b4.size; have := Z1.out; omega
  obtain ⟨D, hD⟩ : ∃ D, w4.heap.size = D := ⟨_, rfl⟩
  have hmk := run_make_row' (P := Tryz.prog) 22 40 (.slice none 0 0) 24 Tryz.underlying22 Tryz.infoRow rfl .i64 .i64 0 (by omega) (by omega) w4
  have FR := RowsL.fresh w4 0 (by unfold maxLen; omega)
  rw [hD] at hmk FR z4
  obtain ⟨w5, hw5⟩ : ∃ w5, w4.alloc (.cells (madeCells #[.slice none 0 0] 0) 40) = w5 := ⟨_, rfl⟩
  rw [hw5] at hmk FR
  rw [show ((0 : Nat) : Int) = 0 from rfl] at hmk
  have b5 : Below D w4 w5 := by rw [← hw5]; exact (Below.refl _ _).alloc (Nat.le_of_eq hD.symm) _
  have z5 : w5.heap.size = D + 1 := by rw [← hw5, World.size_alloc, hD]
  have R5 := (b5.block B (by omega)).trans R4
  have B5 : Hid (Below B w w5) := B4.trans (b5.mono (by omega))
  rw [← z5] at FR
  have F5 := Lib.hid FR
  obtain ⟨d0, d1, f0, f1⟩ := cells2 w5 B _ _ _ R5
  have RR5 := Lib.hid R5
  have BD : Hid (B + 2 ≤ D) := z4
  clear b4 R4 B4 b5 R5 FR HSO HO HC
  go_wp2
  try rw [hw5]
  refine wp_loop_rounds 1 ?_
  rw [rounds_succ]
  go_wp2
  refine endsD rfl w5 B _ _ RR5.out _ _ _ _ ⟨_, rfl, ?_, ?_⟩ _ rfl rfl
  · exact (RowsL.off2 F5.out (show B < D by have := BD.out; omega) _ _).mono (by have := BD.out; have := HB.out; omega) (by simp [World.setCell]) (Nat.le_refl _)
  · rw [HB.out]
    exact (B5.out.setCell (p := ⟨B, 0, none⟩) (Nat.le_refl _) _).setCell (p := ⟨B, 1, none⟩) (Nat.le_refl _) _
/-- designOf of a slice of sets that the call has grown. -/
theorem idesU (n : Int) (w : World) (Q : Nat) (v : Value) (L : List Nat) (hV : Us w Q v L) (hX : ∀ x ∈ L, x < 4294967296) (hl : L.length ≤ 1048576) (hQ : 0 < Q) (hQs : Q ≤ w.heap.size) (ht : Tab w) :
    Calls Tryz.prog 25 #[.int .i64 n, v] w fun e w' => ∃ z, e = .returned (.tuple #[.agg #[.int .i64 (dxN n (L.map ptsN)), z], .int .i64 (dxC (L.map ptsN))]) ∧ RowsL w' w.heap.size w'.heap.size z (dxL (L.map ptsN)) ∧ Below Q w w' := by
  rcases hV.uc with ⟨rfl, rfl⟩ | ⟨gg, cp, rfl, hgg, hUc⟩
  · obtain ⟨e1, e2, e3⟩ := dx_nil n
    rw [show ([] : List Nat).map ptsN = [] from rfl, e1, e2, e3]
    exact (idesNil n w).mono fun e w' ⟨z, h1, h2, h3⟩ => ⟨z, h1, h2, h3.mono hQs⟩
  · have hS2 : ∀ i, i < L.length → L.getD i 0 < 4294967296 := fun i hi => hX _ (by rw [List.getD_eq_getElem?_getD, List.getElem?_eq_getElem hi]; exact List.getElem_mem _)
    have DX := dx_des n (m := L.length) (S := fun i => L.getD i 0) hS2
    rw [ptsL_list] at DX
    have H := idesC n L.length gg cp (fun i => L.getD i 0) hl w hUc hS2 (by omega) ht
    rw [DX.1, DX.2.1, DX.2.2] at H
    exact H.mono fun e w' ⟨z, h1, h2, h3⟩ => ⟨z, h1, h2, ⟨h3.os, h3.tape, h3.output, h3.size, fun i hi => h3.block i (by omega) (by omega)⟩⟩
end

/-! partOf: its walk. -/
section
open Go.RowKit Go.Shelf
set_option linter.unusedVariables false
set_option linter.unusedSimpArgs false

/-- The lists but the one with an index. -/
def skL (idx : Int) (F : Nat → List Int) : Nat → List (List Int)
  | 0 => []
  | k + 1 => skL idx F k ++ if (k : Int) = idx then [] else [F k]
theorem skL_len (idx : Int) (F : Nat → List Int) : ∀ k, (skL idx F k).length ≤ k
  | 0 => Nat.le_refl _
  | k + 1 => by
    have := skL_len idx F k
    rw [skL, List.length_append]
    split <;> simp <;> omega
theorem skL_mem (idx : Int) (F : Nat → List Int) : ∀ k l, l ∈ skL idx F k → ∃ i, i < k ∧ l = F i
  | 0, l, h => by cases h
  | k + 1, l, h => by
    rw [skL, List.mem_append] at h
    rcases h with h | h
    · obtain ⟨i, hi, e⟩ := skL_mem idx F k l h
      exact ⟨i, by omega, e⟩
    · split at h
      · cases h
      · rw [List.mem_singleton] at h
        exact ⟨k, by omega, h⟩
theorem skL_in (idx : Int) (F : Nat → List Int) {i : Nat} (hne : (i : Int) ≠ idx) : ∀ k, i < k → F i ∈ skL idx F k
  | 0, h => by omega
  | k + 1, h => by
    rw [skL, List.mem_append]
    by_cases e : i = k
    · subst e; rw [if_neg hne]; exact .inr (List.mem_singleton.2 rfl)
    · exact .inl (skL_in idx F hne k (by omega))
theorem skL_congr (idx : Int) {F G : Nat → List Int} : ∀ k, (∀ i, i < k → F i = G i) → skL idx F k = skL idx G k
  | 0, _ => rfl
  | k + 1, h => by rw [skL, skL, skL_congr idx k (fun i hi => h i (by omega)), h k (by omega)]
/-- The places of some points in a block. -/
def plF (xss : List (List Int)) (ys : List Int) (k : Nat) : List Int := fls ys.length (fun i => decide (ys.getD i 0 ∈ xss.getD k []))

theorem ren_pts {s : Nat} {ys xs : List Int} {r : Nat} (hl : ys.length ≤ 32) (hy : ∀ i, i < ys.length → 0 ≤ ys.getD i 0 ∧ ys.getD i 0 ≤ 31) (hs : ∀ z : Nat, s.testBit z = decide ((z : Int) ∈ xs)) (h : Ren s ys ys.length r) :
    ptsN r = fls ys.length (fun i => decide (ys.getD i 0 ∈ xs)) := pts_fls hl fun i => by
  rw [h.2 i]
  by_cases c : i < ys.length
  · rw [hs, Int.toNat_of_nonneg (hy i c).1]
  · rw [decide_eq_false c]; rfl

set_option maxRecDepth 100000 in
set_option maxHeartbeats 4000000 in
theorem iPart (n : Int) (m g s : Nat) (S : Nat → Nat) (xss : List (List Int)) (idx : Int) (ys : List Int) (hm : m ≤ 128) (hs : s < 4294967296) (hys : fls 32 (fun k => s.testBit k) = ys) (w : World) (hU : Ub w g m S) (hS : ∀ i, i < m → S i < 4294967296 ∧ ∀ z : Nat, (S i).testBit z = decide ((z : Int) ∈ xss.getD i [])) (ht : Tab w) :
    Calls Tryz.prog 61 #[.agg #[.int .i64 n, .slice (some ⟨g, 0, none⟩) m m], .int .u32 s, .int .i64 idx] w fun e w' => ∃ z, e = .returned (.tuple #[.agg #[.int .i64 (dxN ys.length (skL idx (plF xss ys) m)), z], .int .i64 (dxC (skL idx (plF xss ys) m))]) ∧ RowsL w' w.heap.size w'.heap.size z (dxL (skL idx (plF xss ys) m)) ∧ Below w.heap.size w w' := by
  have yl : ys.length ≤ 32 := by rw [← hys]; exact fls_len _ _
  have hy : ∀ i, i < ys.length → 0 ≤ ys.getD i 0 ∧ ys.getD i 0 ≤ 31 := fun i hi => by
    have e : ys.getD i 0 ∈ ys := by rw [List.getD_eq_getElem?_getD, List.getElem?_eq_getElem hi]; exact List.getElem_mem _
    rw [← hys] at e
    exact fls_range (Nat.le_refl 32) _ (by rw [hys] at e ⊢; exact e)
  obtain ⟨B, hB⟩ : ∃ B, w.heap.size = B := ⟨_, rfl⟩
  have hpos : 0 < B := by rw [← hB]; exact ht.pos
  have lg : g < B := by rw [← hB]; exact hU.lt
  obtain ⟨w1, hw1⟩ : ∃ w1, w.alloc (.cells #[.int .i64 n, .slice (some ⟨g, 0, none⟩) m m] 45) = w1 := ⟨_, rfl⟩
  have z1 : w1.heap.size = B + 1 := by rw [← hw1, World.size_alloc, hB]
  have b1 : Below B w w1 := by rw [← hw1]; exact (Below.refl _ _).alloc (by omega) _
  have A1 : w1.heap[B]? = some (.cells #[.int .i64 n, .slice (some ⟨g, 0, none⟩) m m] 45 (0, 0)) := by rw [← hw1, ← hB]; exact heap_alloc_new _ _
  obtain ⟨w2, hw2⟩ : ∃ w2, w1.alloc (.cells #[.int .i64 0, .slice none 0 0] 26) = w2 := ⟨_, rfl⟩
  have z2 : w2.heap.size = B + 2 := by rw [← hw2, World.size_alloc, z1]
  have b12 : Below (B + 1) w1 w2 := by rw [← hw2]; exact (Below.refl _ _).alloc (Nat.le_of_eq z1.symm) _
  have b2 : Below B w w2 := b1.trans (b12.mono (by omega))
  have A2 := (b12.block B (Nat.lt_succ_self B)).trans A1
  have R2 : w2.heap[B + 1]? = some (.cells #[.int .i64 0, .slice none 0 0] 26 (0, 0)) := by rw [← hw2, ← z1]; exact heap_alloc_new _ _
  have HP := Lib.hid (ipoints s w2 hs (ht.below b2 hpos))
  rw [hys] at HP
  rw [z2] at HP
  have U2 := hU.below b2 lg
  have HB := Lib.hid hB
  have HA2 := Lib.hid A2
  have HR2 := Lib.hid R2
  have HU2 := Lib.hid U2
  have B2 := Lib.hid b2
  have TB := Lib.hid ht
  have HY := Lib.hid hy
  have HS := Lib.hid hS
  have SK : Hid (∀ k, skL idx (plF xss ys) (k + 1) = skL idx (plF xss ys) k ++ if (k : Int) = idx then [] else [plF xss ys k]) := fun k => rfl
  have SZ : Hid (skL idx (plF xss ys) 0 = []) := rfl
  have PL : Hid (∀ k r, k < m → Ren (S k) ys ys.length r → ptsN r = plF xss ys k) := fun k r hk h => ren_pts yl hy (hS k hk).2 h
  obtain ⟨F, hF⟩ : ∃ F, plF xss ys = F := ⟨_, rfl⟩
  simp only [hF] at SK SZ PL ⊢
  obtain ⟨l, hl⟩ : ∃ l, ys.length = l := ⟨_, rfl⟩
  have HL := Lib.hid hl
  rw [hl]
  obtain ⟨lst, hlst⟩ : ∃ lst, skL idx F m = lst := ⟨_, rfl⟩
  rw [hlst]
  have HLST := Lib.hid hlst
  obtain ⟨qn, hqn⟩ : ∃ q, dxN (l : Int) lst = q := ⟨_, rfl⟩
  obtain ⟨qc, hqc⟩ : ∃ q, dxC lst = q := ⟨_, rfl⟩
  obtain ⟨ql, hql⟩ : ∃ q, dxL lst = q := ⟨_, rfl⟩
  rw [hqn, hqc, hql]
  have HQ : Hid (dxN (l : Int) lst = qn ∧ dxC lst = qc ∧ dxL lst = ql) := ⟨hqn, hqc, hql⟩
  have X0 : Hid (∀ x ∈ ([] : List Nat), x < 4294967296) := fun x hx => by cases hx
  clear hlst hqn hqc hql hU hS ht A1 A2 R2 b1 b12 b2 U2 hy hys hF
  go_enter Tryz.func61, Tryz.ntmps61
  go_wp2_with fail
  try rw [hw1]
  try rw [z1]
  try rw [hw2]
  refine HP.out.mono ?_
  rintro e w3 ⟨v3, rfl, i3, b3⟩
  obtain ⟨Q, hQ⟩ : ∃ Q, w3.heap.size = Q := ⟨_, rfl⟩
  have sQ : B + 2 ≤ Q := by have := b3.size; omega
  have A3 := (b3.block B (by omega)).trans HA2.out
  have R3 := Lib.hid ((b3.block (B + 1) (by omega)).trans HR2.out)
  have B3 : Hid (Below B w w3) := B2.out.trans (b3.mono (by omega))
  have U3 := Lib.hid (HU2.out.below b3 (by omega))
  have HI : Hid (∀ W, Below Q w3 W → IntsAt W v3 ys) := fun W h => i3.at.below h (by omega)
  obtain ⟨c0, c1, -, -⟩ := cells2 w3 B _ _ _ A3
  obtain ⟨va, vc, rfl⟩ := i3.len_eq
  have I0 : Hid (Us w3 Q (.slice none 0 0) []) := World.ownsRow_nil _ _ _ _
  have BQ : Hid (Below Q w3 w3) := Below.refl _ _
  have SZ' : Hid (([] : List Nat).map ptsN = skL idx F 0) := by rw [SZ.out]; rfl
  have HIR := Lib.hid (fun k (hk : k < m) W (h : Below Q w3 W) => irenum (S k) (HS.out k hk).1 ys yl HY.out W _ (HI.out W h))
  have LC : Hid (∀ W, Below Q w3 W → Ub W g m S) := fun W h => U3.out.below h (by omega)
  rw [hl] at HIR HI ⊢
  clear i3 b3 A3 HP
  go_wp2
  clear c0 c1
  go_loopw [9, 17] (fun bv i wr => ∃ k : Nat, ∃ L : List Nat, k ≤ m ∧ i = .int .i64 k ∧ L.length ≤ k ∧ Hid (Us wr Q bv L) ∧ Hid (L.map ptsN = skL idx F k) ∧ Hid (∀ x ∈ L, x < 4294967296) ∧ Hid (Below Q w3 wr)) (fun _ i _ => m - (intOf i).toNat)
  case atStart => exact ⟨0, [], by omega, rfl, Nat.le_refl _, I0, SZ', X0, BQ⟩
  case round =>
    obtain ⟨k, L, hk, rfl, hlen, hV, hE, hX, hBl⟩ := hrel
    by_cases c : k < m
    · have k1 : decide (k < m) = true := by simpa using c
      have k1' : decide ((k : Int) < (m : Int)) = true := decide_eq_true (by omega)
      have wk := IntWalk.i64_in ((k : Int) + 1) (by omega)
      have j0 : (0 : Int) ≤ (k : Int) := by omega
      have j1 : (k : Int) < (m : Int) := by omega
      have u1 := (LC.out wr hBl.out).cell k c
      have sW : Q ≤ wr.heap.size := by have := hBl.out.size; omega
      by_cases ei : (k : Int) = idx
      · have E1 : Hid (L.map ptsN = skL idx F (k + 1)) := by have := SK.out k; rw [if_pos ei, List.append_nil] at this; rw [this]; exact hE
        subst ei
        have t1 : ((k : Int) != (k : Int)) = false := by simp
        clear hE
        go_wp2
        go_roundw
        case rel => exact ⟨k + 1, L, by omega, by go_num, by omega, hV, E1, hX, hBl⟩
        case measure => simp [intOf]; omega
      · have t1 : ((k : Int) != idx) = true := by simpa using ei
        have HR := Lib.hid (HIR.out k c wr hBl.out)
        have PLk := Lib.hid (fun r h => PL.out k r c h)
        have E0 := SK.out k
        rw [if_neg ei] at E0
        have E0 := Lib.hid E0
        have ei := Lib.hid ei
        obtain ⟨sk, hsk⟩ : ∃ sk, S k = sk := ⟨_, rfl⟩
        rw [hsk] at u1 HR PLk
        clear hsk
        go_wp2_with fail
        refine HR.out.mono ?_
        rintro e w5 ⟨r, rfl, hr, rfl⟩
        have hpt := PLk.out r (by rw [HL.out]; exact hr)
        have E1 : Hid ((L ++ [r]).map ptsN = skL idx F (k + 1)) := by unfold Hid; rw [E0.out, List.map_append, hE.out, ← hpt]; rfl
        have X1 : Hid (∀ x ∈ L ++ [r], x < 4294967296) := fun x hx => by
          rw [List.mem_append, List.mem_singleton] at hx
          rcases hx with hx | rfl
          · exact hX.out x hx
          · exact hr.1
        clear hr hpt hE hX
        go_wp2_with (at_builtin; refine wpList_pushU _ (by rfl) _ _ (by rfl) Q _ _ (by rfl) hV.out r _ (by rfl) (by omega) sW ?_; intro v' w6 hn hb; have HN' := Lib.hid hn; have HB2 : Hid (Below Q w3 w6) := hBl.out.trans hb; clear hn hb)
        go_roundw
        case rel => exact ⟨k + 1, L ++ [r], by omega, by go_num, by simp; omega, HN', E1, X1, HB2⟩
        case measure => simp [intOf]; omega
    · have k1 : decide (k < m) = false := by simpa using c
      have k1' : decide ((k : Int) < (m : Int)) = false := decide_eq_false (by omega)
      obtain rfl : k = m := by omega
      have R9 := (hBl.out.block (B + 1) (by omega)).trans R3.out
      have B9 : Below B w wr := B3.out.trans (hBl.out.mono (by omega))
      have T9 := TB.out.below B9 hpos
      have hE := Lib.hid (hE.out.trans HLST.out)
      have HD := idesU (l : Int) wr Q _ L hV.out hX.out (by omega) (by omega) (by have := hBl.out.size; omega) T9
      rw [hE.out] at HD
      have HD := Lib.hid HD
      have R9 := Lib.hid R9
      have B9 := Lib.hid B9
      rw [HQ.out.1, HQ.out.2.1, HQ.out.2.2] at HD
      have sW : Q ≤ wr.heap.size := by have := hBl.out.size; omega
      clear hE hX hV T9
      go_wp2_with fail
      refine HD.out.mono ?_
      rintro e w9 ⟨z, rfl, hL, hO⟩
      have RX : w9.heap[B + 1]? = some (.cells #[.int .i64 0, .slice none 0 0] 26 (0, 0)) := (hO.block (B + 1) (by omega)).trans R9.out
      have BX : Hid (Below B w w9) := B9.out.trans (hO.mono (by omega))
      obtain ⟨ay, ly, cy, rfl⟩ : ∃ a l c, z = .slice a l c := by obtain ⟨a, c, e, -⟩ := hL.at.shape; exact ⟨a, _, c, e⟩
      obtain ⟨d0, d1, f0, f1⟩ := cells2 w9 (B + 1) _ _ _ RX
      have LX := Lib.hid hL
      have RX := Lib.hid RX
      clear hL hO
      go_wp2
      refine endsD (fn := Tryz.f61) (i := 6) (j := 7) rfl w9 (B + 1) _ _ RX.out _ _ _ _ ⟨.slice ay ly cy, rfl, ?_, ?_⟩ _ rfl rfl
      · exact (RowsL.off2 LX.out (show B + 1 < wr.heap.size by omega) _ _).mono (by have := HB.out; omega) (by simp [World.setCell]) (Nat.le_refl _)
      · rw [HB.out]
        exact (BX.out.setCell (p := ⟨B + 1, 0, none⟩) (Nat.le_succ B) _).setCell (p := ⟨B + 1, 1, none⟩) (Nat.le_succ B) _
end

/-! Derived and residual designs: the values; blockOf. -/
section
open Go.RowKit Go.Shelf
set_option linter.unusedVariables false
set_option linter.unusedSimpArgs false

def inIdx (idx : Int) (m : Nat) : Bool := decide (0 ≤ idx ∧ idx < m)
/-- The design of what the other blocks have in some points: number of points, blocks, code. -/
noncomputable def dpN (n : Int) (xss : List (List Int)) (idx : Int) (ys : List Int) : Int := if desB n xss = true then (if inIdx idx xss.length = true then (if ys.length = 0 then 0 else dxN ys.length (skL idx (plF xss ys) xss.length)) else 0) else 0
noncomputable def dpL (n : Int) (xss : List (List Int)) (idx : Int) (ys : List Int) : List (List Int) := if desB n xss = true then (if inIdx idx xss.length = true then (if ys.length = 0 then [] else dxL (skL idx (plF xss ys) xss.length)) else []) else []
noncomputable def dpC (n : Int) (xss : List (List Int)) (idx : Int) (ys : List Int) : Int := if desB n xss = true then (if inIdx idx xss.length = true then (if ys.length = 0 then 6 else dxC (skL idx (plF xss ys) xss.length)) else 2) else 1
theorem dp_no {n : Int} {xss : List (List Int)} (idx : Int) (ys : List Int) (h : desB n xss = false) : dpN n xss idx ys = 0 ∧ dpL n xss idx ys = [] ∧ dpC n xss idx ys = 1 := by
  unfold dpN dpL dpC; rw [h]; exact ⟨rfl, rfl, rfl⟩
theorem dp_range {n : Int} {xss : List (List Int)} {idx : Int} (ys : List Int) (h : desB n xss = true) (h2 : inIdx idx xss.length = false) : dpN n xss idx ys = 0 ∧ dpL n xss idx ys = [] ∧ dpC n xss idx ys = 2 := by
  unfold dpN dpL dpC; rw [h, h2]; exact ⟨rfl, rfl, rfl⟩
theorem dp_empty {n : Int} {xss : List (List Int)} {idx : Int} {ys : List Int} (h : desB n xss = true) (h2 : inIdx idx xss.length = true) (h3 : ys.length = 0) : dpN n xss idx ys = 0 ∧ dpL n xss idx ys = [] ∧ dpC n xss idx ys = 6 := by
  unfold dpN dpL dpC; rw [h, h2, if_pos rfl, if_pos rfl, if_pos rfl, if_pos rfl, if_pos rfl, if_pos rfl, if_pos h3, if_pos h3, if_pos h3]; exact ⟨rfl, rfl, rfl⟩
theorem dp_ok {n : Int} {xss : List (List Int)} {idx : Int} {ys : List Int} (h : desB n xss = true) (h2 : inIdx idx xss.length = true) (h3 : ¬ ys.length = 0) : dpN n xss idx ys = dxN ys.length (skL idx (plF xss ys) xss.length) ∧ dpL n xss idx ys = dxL (skL idx (plF xss ys) xss.length) ∧ dpC n xss idx ys = dxC (skL idx (plF xss ys) xss.length) := by
  unfold dpN dpL dpC; rw [h, h2, if_pos rfl, if_pos rfl, if_pos rfl, if_pos rfl, if_pos rfl, if_pos rfl, if_neg h3, if_neg h3, if_neg h3]; exact ⟨rfl, rfl, rfl⟩
/-- The code of a design and an index. -/
noncomputable def askC (n : Int) (xss : List (List Int)) (idx : Int) : Int := if desB n xss = true then (if inIdx idx xss.length = true then 0 else 2) else 1
theorem ask_no {n : Int} {xss : List (List Int)} (idx : Int) (h : desB n xss = false) : askC n xss idx = 1 := by unfold askC; rw [h]; rfl
theorem ask_range {n : Int} {xss : List (List Int)} {idx : Int} (h : desB n xss = true) (h2 : inIdx idx xss.length = false) : askC n xss idx = 2 := by unfold askC; rw [h, h2]; rfl
theorem ask_ok {n : Int} {xss : List (List Int)} {idx : Int} (h : desB n xss = true) (h2 : inIdx idx xss.length = true) : askC n xss idx = 0 := by unfold askC; rw [h, h2]; rfl

theorem results_ctt {fn : Func} {p u t : Tmp} {ty : TypeId} (h : fn.results = #[.cell p ty, .tmp u, .tmp t]) (tmps : Array Value) (P : Program) (w : World) :
    (results fn tmps).run P w =
      ((asAddr (tmps.getD p undef)).run P w).andThen fun a w₁ => ((loadVar ty a).run P w₁).andThen fun v w₂ => .ok (.tuple #[v, tmps.getD u undef, tmps.getD t undef]) w₂ := by
  simp only [results, h]
  simp [Sem.run_bind, Result.andThen]
theorem endsI {fn : Func} {i j l : Nat} (hfn : fn.results = #[.cell i 45, .tmp j, .tmp l]) (W : World) (q : Nat) (z0 z1 : Value) (hk : W.heap[q]? = some (.cells #[z0, z1] 45 (0, 0))) (a b : Value) (o u : Value) (Φ : Ending → World → Prop)
    (hΦ : Φ (.returned (.tuple #[.agg #[a, b], o, u])) ((W.setCell ⟨q, 0, none⟩ a).setCell ⟨q, 1, none⟩ b)) (tmps : Array Value) (t2 : tmps.getD i undef = .pointer (some ⟨q, 0, none⟩)) (t3 : tmps.getD j undef = o) (t4 : tmps.getD l undef = u) :
    bodyPost Tryz.prog fn Φ Exit.ret { tmps := tmps, defers := [] } ((W.setCell ⟨q, 0, none⟩ a).setCell ⟨q, 1, none⟩ b) := by
  have R9 := set2_row W q _ _ a b _ hk
  obtain ⟨w9, hw9⟩ : ∃ w9, ((W.setCell ⟨q, 0, none⟩ a).setCell ⟨q, 1, none⟩ b) = w9 := ⟨_, rfl⟩
  rw [hw9] at R9 hΦ ⊢
  have hld := run_loadVar_row (P := Tryz.prog) _ _ 45 45 #[a, b] (0, 0) _ R9 Tryz.underlying45 rfl Tryz.infoInc
  have t2' : tmps[i]?.getD undef = .pointer (some ⟨q, 0, none⟩) := by simpa using t2
  have t3' : tmps[j]?.getD undef = o := by simpa using t3
  have t4' : tmps[l]?.getD undef = u := by simpa using t4
  refine bodyPost_ret (v := .tuple #[.agg #[a, b], o, u]) ?_ rfl hΦ
  rw [results_ctt hfn]
  simp [asAddr, Result.andThen, t2', t3', t4', hld]

/-- What blockOf leaves. -/
def BoOut (n : Int) (xss : List (List Int)) (idx : Int) (B : Nat) (w' : World) (z : Value) (s : Nat) : Prop :=
  (¬ (desB n xss = true ∧ inIdx idx xss.length = true) → z = .agg #[.int .i64 0, .slice none 0 0] ∧ s = 0) ∧
  (desB n xss = true ∧ inIdx idx xss.length = true → ∃ g S, z = .agg #[.int .i64 n, .slice (some ⟨g, 0, none⟩) xss.length xss.length] ∧ B ≤ g ∧ Ub w' g xss.length S ∧ SetsF xss xss.length S ∧ s = S idx.toNat)
set_option maxRecDepth 100000 in
set_option maxHeartbeats 4000000 in
theorem iblockOf (n : Int) (xss : List (List Int)) (idx : Int) (hx : xss.length ≤ 1048576) (w : World) (v : Value) (hv : RowsAt w v xss) (ht : Tab w) :
    Calls Tryz.prog 32 #[.agg #[.int .i64 n, v], .int .i64 idx] w fun e w' => ∃ z, ∃ s : Nat, e = .returned (.tuple #[z, .int .u32 (s : Nat), .int .i64 (askC n xss idx)]) ∧ BoOut n xss idx w.heap.size w' z s ∧ Below w.heap.size w w' := by
  obtain ⟨va, cap, rfl, -⟩ := hv.shape
  obtain ⟨m, hm⟩ : ∃ m, xss.length = m := ⟨_, rfl⟩
  rw [hm] at hv ⊢
  obtain ⟨B, hB⟩ : ∃ B, w.heap.size = B := ⟨_, rfl⟩
  have hpos : 0 < B := by rw [← hB]; exact ht.pos
  obtain ⟨w1, hw1⟩ : ∃ w1, w.alloc (.cells #[.int .i64 n, .slice va m cap] 26) = w1 := ⟨_, rfl⟩
  have z1 : w1.heap.size = B + 1 := by rw [← hw1, World.size_alloc, hB]
  have b1 : Below B w w1 := by rw [← hw1]; exact (Below.refl _ _).alloc (by omega) _
  have A1 : w1.heap[B]? = some (.cells #[.int .i64 n, .slice va m cap] 26 (0, 0)) := by rw [← hw1, ← hB]; exact heap_alloc_new _ _
  obtain ⟨w2, hw2⟩ : ∃ w2, w1.alloc (.cells #[.int .i64 0, .slice none 0 0] 45) = w2 := ⟨_, rfl⟩
  have z2 : w2.heap.size = B + 2 := by rw [← hw2, World.size_alloc, z1]
  have b12 : Below (B + 1) w1 w2 := by rw [← hw2]; exact (Below.refl _ _).alloc (Nat.le_of_eq z1.symm) _
  have b2 : Below B w w2 := b1.trans (b12.mono (Nat.le_succ B))
  have R2 : w2.heap[B + 1]? = some (.cells #[.int .i64 0, .slice none 0 0] 45 (0, 0)) := by rw [← hw2, ← z1]; exact heap_alloc_new _ _
  have A2 := (b12.block B (Nat.lt_succ_self B)).trans A1
  obtain ⟨c0, c1, -, -⟩ := cells2 w2 B _ _ _ A2
  have HO := Lib.hid (iInc n xss hx w2 _ (hv.below b2 (by omega)) (ht.below b2 hpos))
  rw [z2] at HO
  have HB := Lib.hid hB
  have B2 := Lib.hid b2
  have HR2 := Lib.hid R2
  have EN : Hid (∀ (W : World) (cd : Int), W.heap[B + 1]? = some (.cells #[.int .i64 0, .slice none 0 0] 45 (0, 0)) → Below B w W → ¬ (desB n xss = true ∧ inIdx idx xss.length = true) → askC n xss idx = cd → ∀ (tmps : Array Value), tmps.getD 4 undef = .pointer (some ⟨B + 1, 0, none⟩) → tmps.getD 5 undef = .int .u32 0 → tmps.getD 6 undef = .int .i64 cd →
      bodyPost Tryz.prog Tryz.f32 (fun e w' => ∃ z, ∃ s : Nat, e = .returned (.tuple #[z, .int .u32 (s : Nat), .int .i64 (askC n xss idx)]) ∧ BoOut n xss idx w.heap.size w' z s ∧ Below w.heap.size w w') Exit.ret { tmps := tmps, defers := [] } ((W.setCell ⟨B + 1, 0, none⟩ (.int .i64 0)).setCell ⟨B + 1, 1, none⟩ (.slice none 0 0))) := fun W cd hk hb hf hc tmps t2 t3 t4 => by
    refine endsI (fn := Tryz.f32) (i := 4) (j := 5) (l := 6) rfl W (B + 1) _ _ hk _ _ _ _ _ ⟨.agg #[.int .i64 0, .slice none 0 0], 0, by rw [hc]; rfl, ⟨fun _ => ⟨rfl, rfl⟩, fun h => absurd h hf⟩, ?_⟩ tmps t2 t3 t4
    rw [HB.out]
    exact (hb.setCell (p := ⟨B + 1, 0, none⟩) (Nat.le_succ B) _).setCell (p := ⟨B + 1, 1, none⟩) (Nat.le_succ B) _
  have HM := Lib.hid hm
  clear hv A1 b1 A2 R2 b12 b2 ht
  cases hp : desB n xss with
  | false =>
    have V := Lib.hid (ask_no idx hp)
    have NT : Hid (¬ (desB n xss = true ∧ inIdx idx xss.length = true)) := fun h => by rw [hp] at h; cases h.1
    rw [hp] at HO
    clear hp
    go_enter Tryz.func32, Tryz.ntmps32
    go_wp2_with fail
    try rw [hw1]
    try rw [z1]
    try rw [hw2]
    refine HO.out.mono ?_
    rintro e w3 ⟨z, rfl, ⟨hz, -⟩, b3⟩
    obtain rfl := hz rfl
    have s3 : B + 2 ≤ w3.heap.size := by have := b3.size; omega
    have R3 := (b3.block (B + 1) (by omega)).trans HR2.out
    have B3 : Below B w w3 := B2.out.trans (b3.mono (by omega))
    have b34 : Below w3.heap.size w3 (w3.alloc (.cells #[.int .i64 0, .slice none 0 0] 45)) := (Below.refl _ _).alloc (Nat.le_refl _) _
    have R4 := (b34.block (B + 1) (by omega)).trans R3
    have B4 : Below B w (w3.alloc (.cells #[.int .i64 0, .slice none 0 0] 45)) := B3.trans (b34.mono (by omega))
    obtain ⟨d0, d1, f0, f1⟩ := cells2 (w3.alloc (.cells #[.int .i64 0, .slice none 0 0] 45)) (B + 1) _ _ _ R4
    have RR4 := Lib.hid R4
    have BB4 := Lib.hid B4
    clear b3 c0 c1 R3 B3 b34 R4 B4
    go_wp2
    exact EN.out _ 1 RR4.out BB4.out NT.out V.out _ rfl rfl rfl
  | true =>
    have HP := Lib.hid hp
    have D := of_desB hp
    rw [hp] at HO
    clear hp
    go_enter Tryz.func32, Tryz.ntmps32
    go_wp2_with fail
    try rw [hw1]
    try rw [z1]
    try rw [hw2]
    refine HO.out.mono ?_
    rintro e w3 ⟨z, rfl, ⟨-, hz⟩, b3⟩
    obtain ⟨g, S, rfl, hg, hU, hS⟩ := hz rfl
    rw [hm] at hU hS ⊢
    have s3 : B + 2 ≤ w3.heap.size := by have := b3.size; omega
    have R3 := (b3.block (B + 1) (by omega)).trans HR2.out
    have B3 : Below B w w3 := B2.out.trans (b3.mono (by omega))
    obtain ⟨w4, hw4⟩ : ∃ w4, w3.alloc (.cells #[.int .i64 n, .slice (some ⟨g, 0, none⟩) m m] 45) = w4 := ⟨_, rfl⟩
    have b34 : Below w3.heap.size w3 w4 := by rw [← hw4]; exact (Below.refl _ _).alloc (Nat.le_refl _) _
    have R4 := (b34.block (B + 1) (by omega)).trans R3
    have B4 : Below B w w4 := B3.trans (b34.mono (by omega))
    have N4 : w4.heap[w3.heap.size]? = some (.cells #[.int .i64 n, .slice (some ⟨g, 0, none⟩) m m] 45 (0, 0)) := by rw [← hw4]; exact heap_alloc_new _ _
    have U4 := Lib.hid (hU.below b34 hU.lt)
    have gl : g < w3.heap.size := hU.lt
    obtain ⟨d0, d1, f0, f1⟩ := cells2 w4 (B + 1) _ _ _ R4
    obtain ⟨J, hJ⟩ : ∃ J, w3.heap.size = J := ⟨_, rfl⟩
    rw [hJ] at N4 s3 gl
    obtain ⟨e0, e1, -, -⟩ := cells2 w4 J _ _ _ N4
    have RR4 := Lib.hid R4
    have BB4 := Lib.hid B4
    have HSF := Lib.hid hS
    clear b3 c0 c1 R3 B3 b34 R4 B4 N4 hU D hS
    by_cases q0 : idx < 0
    · have TW : inIdx idx xss.length = false := decide_eq_false (by omega)
      have V := Lib.hid (ask_range HP.out TW)
      have NT : Hid (¬ (desB n xss = true ∧ inIdx idx xss.length = true)) := fun h => by rw [TW] at h; cases h.2
      have t0 : decide (idx < 0) = true := decide_eq_true q0
      have q0 := Lib.hid q0
      clear TW
      go_wp2
      try rw [hw4]
      exact EN.out _ 2 RR4.out BB4.out NT.out V.out _ rfl rfl rfl
    have t0 : decide (idx < 0) = false := decide_eq_false q0
    by_cases q1 : (m : Int) ≤ idx
    · have TW : inIdx idx xss.length = false := decide_eq_false (by omega)
      have V := Lib.hid (ask_range HP.out TW)
      have NT : Hid (¬ (desB n xss = true ∧ inIdx idx xss.length = true)) := fun h => by rw [TW] at h; cases h.2
      have t1 : decide (idx ≥ (m : Int)) = true := decide_eq_true q1
      have t1' : decide ((m : Int) ≤ idx) = true := decide_eq_true q1
      have q1 := Lib.hid q1
      clear TW
      go_wp2
      try rw [hw4]
      exact EN.out _ 2 RR4.out BB4.out NT.out V.out _ rfl rfl rfl
    have t1 : decide (idx ≥ (m : Int)) = false := decide_eq_false q1
    have t1' : decide ((m : Int) ≤ idx) = false := decide_eq_false q1
    have TW : inIdx idx xss.length = true := decide_eq_true ⟨by omega, by omega⟩
    have V := Lib.hid (ask_ok HP.out TW)
    have HT := Lib.hid TW
    obtain ⟨k, rfl⟩ : ∃ k : Nat, idx = k := ⟨idx.toNat, by omega⟩
    have hk : k < m := by omega
    have j0 : (0 : Int) ≤ (k : Int) := by omega
    have j1 : (k : Int) < (m : Int) := by omega
    have u1 := U4.out.cell k hk
    obtain ⟨sk, hsk⟩ : ∃ sk, S k = sk := ⟨_, rfl⟩
    have HSK := Lib.hid hsk
    rw [hsk] at u1
    clear hsk TW
    have FAR : Hid (∀ q o, q ≠ B + 1 → (((w4.setCell ⟨B + 1, 0, none⟩ (.int .i64 n)).setCell ⟨B + 1, 1, none⟩ (.slice (some ⟨g, 0, none⟩) m m)).drew).cell? ⟨q, o, none⟩ = w4.cell? ⟨q, o, none⟩) := fun q o h => by
      show ((w4.setCell ⟨B + 1, 0, none⟩ (.int .i64 n)).setCell ⟨B + 1, 1, none⟩ (.slice (some ⟨g, 0, none⟩) m m)).cell? ⟨q, o, none⟩ = _
      rw [World.cell?_setCell_far _ _ _ _ (fun e => h e.symm), World.cell?_setCell_far _ _ _ _ (fun e => h e.symm)]
    have EQ : Hid (((w4.setCell ⟨B + 1, 0, none⟩ (.int .i64 n)).setCell ⟨B + 1, 1, none⟩ (.slice (some ⟨g, 0, none⟩) m m)).drew = (w4.drew.setCell ⟨B + 1, 0, none⟩ (.int .i64 n)).setCell ⟨B + 1, 1, none⟩ (.slice (some ⟨g, 0, none⟩) m m)) := rfl
    go_wp2
    try rw [hw4]
    refine wp_region_held_drew (S := fun w' => w'.cell? ⟨J, 0, none⟩ = some (.int .i64 n) ∧ w'.cell? ⟨J, 1, none⟩ = some (.slice (some ⟨g, 0, none⟩) m m) ∧ w'.cell? ⟨g, k, none⟩ = some (.int .u32 (sk : Nat))) (by kernel_rfl) ⟨e0, e1, u1⟩ (fun hHeld => ?_)
    refine wpAnyH_take (i := 0) (oi := { dst := some 27, op := Op.load 45 (Operand.tmp 7), type := 45, pos := "l10_designs.go:302", after := #[], guard := none }) (v := ?_) rfl (by kernel_rfl) (by kernel_rfl) (by kernel_rfl) (fun _ _ _ h => h) (Or.inl ⟨by rfl, ?_⟩) (by assumption) ?_
    rotate_left
    · intro w hSw; (try dsimp only at hSw); go_simp
      try with_reducible rfl
    simp only [Act.put, List.setIfInBounds_toArray, List.set_cons_zero, List.set_cons_succ]
    refine wpAnyH_take (i := 1) (oi := { dst := some 28, op := Op.fieldAddr 45 (Operand.tmp 7) 1, type := 0, pos := "l10_designs.go:302", after := #[{ on := 6, ground := Ground.gcOnly Departure.lateStores }], guard := none }) (v := ?_) rfl (by kernel_rfl) (by kernel_rfl) (by kernel_rfl) (fun _ _ _ h => h) (Or.inl ⟨by rfl, ?_⟩) (by assumption) ?_
    rotate_left
    · intro w hSw; (try dsimp only at hSw); go_simp
      try with_reducible rfl
    simp only [Act.put, List.setIfInBounds_toArray, List.set_cons_zero, List.set_cons_succ]
    refine wpAnyH_take (i := 2) (oi := { dst := some 29, op := Op.load 43 (Operand.tmp 28), type := 43, pos := "l10_designs.go:302", after := #[{ on := 1, ground := Ground.data }, { on := 6, ground := Ground.gcOnly Departure.lateStores }], guard := none }) (v := ?_) rfl (by kernel_rfl) (by kernel_rfl) (by kernel_rfl) (fun _ _ _ h => h) (Or.inl ⟨by rfl, ?_⟩) (by assumption) ?_
    rotate_left
    · intro w hSw; (try dsimp only at hSw); go_simp
      try with_reducible rfl
    simp only [Act.put, List.setIfInBounds_toArray, List.set_cons_zero, List.set_cons_succ]
    refine wpAnyH_take (i := 3) (oi := { dst := some 30, op := Op.move (Operand.tmp 1), type := 2, pos := "l10_designs.go:302", after := #[{ on := 6, ground := Ground.gcOnly Departure.lateStores }], guard := none }) (v := ?_) rfl (by kernel_rfl) (by kernel_rfl) (by kernel_rfl) (fun _ _ _ h => h) (Or.inl ⟨by rfl, ?_⟩) (by assumption) ?_
    rotate_left
    · intro w hSw; (try dsimp only at hSw); go_simp
      try with_reducible rfl
    simp only [Act.put, List.setIfInBounds_toArray, List.set_cons_zero, List.set_cons_succ]
    refine wpAnyH_take (i := 4) (oi := { dst := some 31, op := Op.indexAddr 43 (Operand.tmp 29) (Operand.tmp 30), type := 0, pos := "l10_designs.go:302", after := #[{ on := 2, ground := Ground.data }, { on := 3, ground := Ground.data }, { on := 6, ground := Ground.gcOnly Departure.lateStores }], guard := none }) (v := ?_) rfl (by kernel_rfl) (by kernel_rfl) (by kernel_rfl) (fun _ _ _ h => h) (Or.inl ⟨by rfl, ?_⟩) (by assumption) ?_
    rotate_left
    · intro w hSw; (try dsimp only at hSw); go_simp
      try with_reducible rfl
    simp only [Act.put, List.setIfInBounds_toArray, List.set_cons_zero, List.set_cons_succ]
    refine wpAnyH_take (i := 5) (oi := { dst := some 32, op := Op.load 51 (Operand.tmp 31), type := 51, pos := "l10_designs.go:302", after := #[{ on := 4, ground := Ground.data }, { on := 6, ground := Ground.gcOnly Departure.lateStores }], guard := none }) (v := ?_) rfl (by kernel_rfl) (by kernel_rfl) (by kernel_rfl) (fun _ _ _ h => h) (Or.inl ⟨by rfl, ?_⟩) (by assumption) ?_
    rotate_left
    · intro w hSw; (try dsimp only at hSw); go_simp
      try with_reducible rfl
    simp only [Act.put, List.setIfInBounds_toArray, List.set_cons_zero, List.set_cons_succ]
    refine wpAnyH_ready (rs := [6]) (by kernel_rfl) (by simp) ?_
    refine AllReadyH.cons rfl (fun K' hK' => ?_) AllReadyH.nil
    go_simp
    refine hK'.out _ _ ⟨(FAR.out J 0 (by omega)).trans e0, (FAR.out J 1 (by omega)).trans e1, (FAR.out g k (by omega)).trans u1⟩ (fun hHeld => ?_)
    clear hK' K'
    refine wpAnyH_take (i := 7) (oi := { dst := some 5, op := Op.assign (Operand.tmp 32), type := 51, pos := "l10_designs.go:302", after := #[{ on := 5, ground := Ground.data }, { on := 6, ground := Ground.chain }, { on := 0, ground := Ground.phase }, { on := 1, ground := Ground.phase }, { on := 2, ground := Ground.phase }, { on := 3, ground := Ground.phase }, { on := 4, ground := Ground.phase }, { on := 5, ground := Ground.phase }, { on := 6, ground := Ground.phase }], guard := none }) (v := ?_) rfl (by kernel_rfl) (by kernel_rfl) (by kernel_rfl) (fun _ _ _ h => h) (Or.inl ⟨by rfl, ?_⟩) (by assumption) ?_
    rotate_left
    · intro w hSw; (try dsimp only at hSw); go_simp
      try with_reducible rfl
    simp only [Act.put, List.setIfInBounds_toArray, List.set_cons_zero, List.set_cons_succ]
    refine wpAnyH_take (i := 8) (oi := { dst := some 6, op := Op.assign (Operand.const (Value.int IntKind.i64 0)), type := 2, pos := "l10_designs.go:302", after := #[{ on := 7, ground := Ground.chain }, { on := 0, ground := Ground.phase }, { on := 1, ground := Ground.phase }, { on := 2, ground := Ground.phase }, { on := 3, ground := Ground.phase }, { on := 4, ground := Ground.phase }, { on := 5, ground := Ground.phase }, { on := 6, ground := Ground.phase }, { on := 7, ground := Ground.phase }], guard := none }) (v := ?_) rfl (by kernel_rfl) (by kernel_rfl) (by kernel_rfl) (fun _ _ _ h => h) (Or.inl ⟨by rfl, ?_⟩) (by assumption) ?_
    rotate_left
    · intro w hSw; (try dsimp only at hSw); go_simp
      try with_reducible rfl
    simp only [Act.put, List.setIfInBounds_toArray, List.set_cons_zero, List.set_cons_succ]
    refine wpAnyH_done (by kernel_rfl) ?_ _
    clear hHeld
    go_wp2
    try rw [EQ.out]
    refine endsI (fn := Tryz.f32) (i := 4) (j := 5) (l := 6) rfl w4.drew (B + 1) _ _ (show w4.drew.heap[B + 1]? = _ from RR4.out) _ _ _ _ _ ⟨_, sk, by rw [V.out]; rfl, ⟨fun h => absurd ⟨HP.out, HT.out⟩ h, fun _ => ⟨g, S, by rw [HM.out], by have := HB.out; omega, ?_, by rw [HM.out]; exact HSF.out, by rw [Int.toNat_natCast]; exact HSK.out.symm⟩⟩, ?_⟩ _ rfl rfl rfl
    · rw [HM.out]
      exact (Below.heap_setCell _ _ _ g (by show g ≠ B + 1; omega)).trans ((Below.heap_setCell _ _ _ g (by show g ≠ B + 1; omega)).trans (show w4.drew.heap[g]? = _ from U4.out))
    · rw [HB.out]
      exact (BB4.out.drew.setCell (p := ⟨B + 1, 0, none⟩) (Nat.le_succ B) _).setCell (p := ⟨B + 1, 1, none⟩) (Nat.le_succ B) _
end

/-! Derived and residual designs: the program's. -/
section
open Go.RowKit Go.Shelf
set_option linter.unusedVariables false
set_option linter.unusedSimpArgs false

theorem dp_ask {n : Int} {xss : List (List Int)} {idx : Int} (ys : List Int) (h : ¬ (desB n xss = true ∧ inIdx idx xss.length = true)) : dpN n xss idx ys = 0 ∧ dpL n xss idx ys = [] ∧ dpC n xss idx ys = askC n xss idx ∧ askC n xss idx ≠ 0 := by
  cases hp : desB n xss with
  | false =>
    obtain ⟨a, b, c⟩ := dp_no idx ys hp
    have d := ask_no idx hp
    exact ⟨a, b, by rw [c, d], by rw [d]; decide⟩
  | true =>
    cases h2 : inIdx idx xss.length with
    | false =>
      obtain ⟨a, b, c⟩ := dp_range ys hp h2
      have d := ask_range hp h2
      exact ⟨a, b, by rw [c, d], by rw [d]; decide⟩
    | true => exact absurd ⟨hp, h2⟩ h
/-- The points of a block, and those outside of it. -/
def insY (xss : List (List Int)) (idx : Int) : List Int := xss.getD idx.toNat []
def outY (n : Int) (xss : List (List Int)) (idx : Int) : List Int := fls n.toNat (fun i => !decide ((i : Int) ∈ xss.getD idx.toNat []))
theorem ibelowD (n : Nat) (hn : n ≤ 32) (w : World) : Calls Tryz.prog 59 #[.int .i64 n] w fun e w' => e = .returned (.int .u32 ((2 ^ n - 1 : Nat) : Int)) ∧ w' = w := by
  have key : ∀ k : Nat, k < 33 → k = 0 ∨ k = 1 ∨ k = 2 ∨ k = 3 ∨ k = 4 ∨ k = 5 ∨ k = 6 ∨ k = 7 ∨ k = 8 ∨ k = 9 ∨ k = 10 ∨ k = 11 ∨ k = 12 ∨ k = 13 ∨ k = 14 ∨ k = 15 ∨ k = 16 ∨ k = 17 ∨ k = 18 ∨ k = 19 ∨ k = 20 ∨ k = 21 ∨ k = 22 ∨ k = 23 ∨ k = 24 ∨ k = 25 ∨ k = 26 ∨ k = 27 ∨ k = 28 ∨ k = 29 ∨ k = 30 ∨ k = 31 ∨ k = 32 := by omega
  rcases key n (by omega) with rfl | rfl | rfl | rfl | rfl | rfl | rfl | rfl | rfl | rfl | rfl | rfl | rfl | rfl | rfl | rfl | rfl | rfl | rfl | rfl | rfl | rfl | rfl | rfl | rfl | rfl | rfl | rfl | rfl | rfl | rfl | rfl | rfl <;>
  · go_enter Tryz.func59, Tryz.ntmps59
    go_wp2
    go_ret
    exact ⟨rfl, rfl⟩
theorem outY_pts {N s z : Nat} {xs : List Int} (hN : N ≤ 32) (hs : ∀ k : Nat, s.testBit k = decide ((k : Int) ∈ xs)) (hz : OpOut (fun a b => a && !b) (2 ^ N - 1) s z) : fls 32 (fun k => z.testBit k) = fls N (fun i => !decide ((i : Int) ∈ xs)) :=
  pts_fls (x := z) hN fun i => by rw [hz.2 i, Nat.testBit_two_pow_sub_one, hs]

set_option maxRecDepth 100000 in
set_option maxHeartbeats 1000000 in
theorem iResidualDesign (n : Int) (xss : List (List Int)) (idx : Int) (hx : xss.length ≤ 1048576) (w : World) (v : Value) (hv : RowsAt w v xss) (ht : Tab w) :
    Calls Tryz.prog 34 #[.agg #[.int .i64 n, v], .int .i64 idx] w fun e w' => ∃ z, e = .returned (.tuple #[.agg #[.int .i64 (dpN n xss idx (outY n xss idx)), z], .int .i64 (dpC n xss idx (outY n xss idx))]) ∧ RowsL w' w.heap.size w'.heap.size z (dpL n xss idx (outY n xss idx)) ∧ Below w.heap.size w w' := by
  obtain ⟨va, cap, rfl, -⟩ := hv.shape
  obtain ⟨m, hm⟩ : ∃ m, xss.length = m := ⟨_, rfl⟩
  rw [hm] at hv ⊢
  have HM := Lib.hid hm
  obtain ⟨B, hB⟩ : ∃ B, w.heap.size = B := ⟨_, rfl⟩
  have hpos : 0 < B := by rw [← hB]; exact ht.pos
  obtain ⟨w1, hw1⟩ : ∃ w1, w.alloc (.cells #[.int .i64 n, .slice va m cap] 26) = w1 := ⟨_, rfl⟩
  have z1 : w1.heap.size = B + 1 := by rw [← hw1, World.size_alloc, hB]
  have b1 : Below B w w1 := by rw [← hw1]; exact (Below.refl _ _).alloc (by omega) _
  have A1 : w1.heap[B]? = some (.cells #[.int .i64 n, .slice va m cap] 26 (0, 0)) := by rw [← hw1, ← hB]; exact heap_alloc_new _ _
  obtain ⟨w2, hw2⟩ : ∃ w2, w1.alloc (.cells #[.int .i64 0, .slice none 0 0] 26) = w2 := ⟨_, rfl⟩
  have z2 : w2.heap.size = B + 2 := by rw [← hw2, World.size_alloc, z1]
  have b12 : Below (B + 1) w1 w2 := by rw [← hw2]; exact (Below.refl _ _).alloc (Nat.le_of_eq z1.symm) _
  have b2 : Below B w w2 := b1.trans (b12.mono (Nat.le_succ B))
  have R2 : w2.heap[B + 1]? = some (.cells #[.int .i64 0, .slice none 0 0] 26 (0, 0)) := by rw [← hw2, ← z1]; exact heap_alloc_new _ _
  have A2 := (b12.block B (Nat.lt_succ_self B)).trans A1
  obtain ⟨c0, c1, -, -⟩ := cells2 w2 B _ _ _ A2
  have HO := Lib.hid (iblockOf n xss idx hx w2 _ (hv.below b2 (by omega)) (ht.below b2 hpos))
  rw [z2] at HO
  have HB := Lib.hid hB
  have B2 := Lib.hid b2
  have HR2 := Lib.hid R2
  have TB := Lib.hid ht
  have EN : Hid (∀ (W : World) (cd : Int), W.heap[B + 1]? = some (.cells #[.int .i64 0, .slice none 0 0] 26 (0, 0)) → Below B w W → dpN n xss idx (outY n xss idx) = 0 ∧ dpL n xss idx (outY n xss idx) = [] ∧ dpC n xss idx (outY n xss idx) = cd → ∀ (tmps : Array Value), tmps.getD 4 undef = .pointer (some ⟨B + 1, 0, none⟩) → tmps.getD 5 undef = .int .i64 cd →
      bodyPost Tryz.prog Tryz.f34 (fun e w' => ∃ z, e = .returned (.tuple #[.agg #[.int .i64 (dpN n xss idx (outY n xss idx)), z], .int .i64 (dpC n xss idx (outY n xss idx))]) ∧ RowsL w' w.heap.size w'.heap.size z (dpL n xss idx (outY n xss idx)) ∧ Below w.heap.size w w') Exit.ret { tmps := tmps, defers := [] } ((W.setCell ⟨B + 1, 0, none⟩ (.int .i64 0)).setCell ⟨B + 1, 1, none⟩ (.slice none 0 0))) := fun W cd hk hb hf tmps t2 t3 => by
    refine endsD (fn := Tryz.f34) (i := 4) (j := 5) rfl W (B + 1) _ _ hk _ _ _ _ ⟨.slice none 0 0, by rw [hf.1, hf.2.2], ?_, ?_⟩ tmps t2 t3
    · rw [hf.2.1]; exact RowsL.nil _ _ _ (Nat.le_refl _)
    · rw [HB.out]
      exact (hb.setCell (p := ⟨B + 1, 0, none⟩) (Nat.le_succ B) _).setCell (p := ⟨B + 1, 1, none⟩) (Nat.le_succ B) _
  clear hv A1 b1 A2 R2 b12 b2 ht
  by_cases hk : desB n xss = true ∧ inIdx idx xss.length = true
  · obtain ⟨hp, h2⟩ := hk
    have HK := Lib.hid (And.intro hp h2)
    have D := of_desB hp
    obtain ⟨N, rfl⟩ : ∃ N : Nat, n = N := ⟨n.toNat, by have := D.1; omega⟩
    have n32 : N ≤ 32 := by have := D.2.1; omega
    have m128 : m ≤ 128 := by have := D.2.2.1; omega
    obtain ⟨k0, k1⟩ := of_decide_eq_true h2
    obtain ⟨k, rfl⟩ : ∃ k : Nat, idx = k := ⟨idx.toNat, by omega⟩
    have hkm : k < m := by omega
    have BK := (D.2.2.2 k (by omega)).1
    have A0 := ask_ok hp h2
    rw [A0] at HO
    have HD := Lib.hid D
    clear D A0 k0 k1
    go_enter Tryz.func34, Tryz.ntmps34
    go_wp2_with fail
    try rw [hw1]
    try rw [z1]
    try rw [hw2]
    refine HO.out.mono ?_
    rintro e w3 ⟨z, s, rfl, ⟨-, hz⟩, b3⟩
    obtain ⟨g, S, rfl, hg, hU, hS, hs⟩ := hz HK.out
    rw [Int.toNat_natCast] at hs
    rw [hm] at hU hS ⊢
    have s3 : B + 2 ≤ w3.heap.size := by have := b3.size; omega
    have R3 := (b3.block (B + 1) (by omega)).trans HR2.out
    have B3 : Below B w w3 := B2.out.trans (b3.mono (by omega))
    obtain ⟨w4, hw4⟩ : ∃ w4, w3.alloc (.cells #[.int .i64 (N : Int), .slice (some ⟨g, 0, none⟩) m m] 45) = w4 := ⟨_, rfl⟩
    have b34 : Below w3.heap.size w3 w4 := by rw [← hw4]; exact (Below.refl _ _).alloc (Nat.le_refl _) _
    have R4 := (b34.block (B + 1) (by omega)).trans R3
    have B4 : Below B w w4 := B3.trans (b34.mono (by omega))
    have N4 : w4.heap[w3.heap.size]? = some (.cells #[.int .i64 (N : Int), .slice (some ⟨g, 0, none⟩) m m] 45 (0, 0)) := by rw [← hw4]; exact heap_alloc_new _ _
    have U4 := hU.below b34 hU.lt
    have s4 : B + 1 < w4.heap.size := by have := b34.size; omega
    obtain ⟨e0, e1, -, -⟩ := cells2 w4 _ _ _ _ N4
    have hs32 : s < 4294967296 := by rw [hs]; exact (hS k hkm).1
    have hsb : ∀ z : Nat, s.testBit z = decide ((z : Int) ∈ xss.getD k []) := fun z => by rw [hs]; exact (hS k hkm).2 z
    clear hs hz
    have HBl := Lib.hid (fun W => ibelowD N n32 W)
    have bl32 : 2 ^ N - 1 < 4294967296 := by
      have : 2 ^ N ≤ 2 ^ 32 := Nat.pow_le_pow_right (by omega) n32
      omega
    have HMi := Lib.hid (fun W => iminus (2 ^ N - 1) s W bl32 hs32)
    clear bl32
    have PZ : Hid (∀ z, OpOut (fun a b => a && !b) (2 ^ N - 1) s z → fls 32 (fun k => z.testBit k) = outY (N : Int) xss (k : Int)) := fun z hz => by
      unfold outY; rw [Int.toNat_natCast, Int.toNat_natCast]; exact outY_pts n32 hsb hz
    have HPt0 := Lib.hid (fun z (hz : z < 4294967296) hys => iPart (N : Int) m g z S xss (k : Int) (outY (N : Int) xss (k : Int)) m128 hz hys w4 U4 (fun i hi => hS i hi) (TB.out.below B4 hpos))
    have DPE := Lib.hid (fun h3 => dp_empty (ys := outY (N : Int) xss (k : Int)) hp h2 h3)
    have DPO := Lib.hid (fun h3 => dp_ok (ys := outY (N : Int) xss (k : Int)) hp h2 h3)
    rw [hm] at DPO
    obtain ⟨bq, hbq⟩ : ∃ q, 2 ^ N - 1 = q := ⟨_, rfl⟩
    rw [hbq] at HBl HMi PZ
    clear hbq
    go_wp2_with fail
    try rw [hw4]
    refine (HBl.out _).mono ?_
    rintro e w5 ⟨rfl, ew5⟩
    have ew5 := ew5.symm
    subst ew5
    go_wp2_with fail
    refine (HMi.out _).mono ?_
    rintro e w5 ⟨zz, rfl, hzz, ew5⟩
    subst ew5
    have hy := PZ.out zz hzz
    have zz32 := hzz.1
    by_cases q0 : zz = 0
    · have E0 : (outY (N : Int) xss (k : Int)).length = 0 := by rw [← hy, q0]; simp [fls, Nat.zero_testBit]
      have V := Lib.hid (DPE.out E0)
      subst q0
      obtain ⟨d0, d1, f0, f1⟩ := cells2 w4 (B + 1) _ _ _ R4
      have RR4 := Lib.hid R4
      have BB4 := Lib.hid B4
      clear b3 c0 c1 R3 B3 b34 R4 B4 N4 hU hS hsb U4 s4 hp h2 BK E0 hy hzz
      go_wp2
      exact EN.out _ 6 RR4.out BB4.out V.out _ rfl rfl
    have t0 : ((zz : Int) == 0) = false := by simp; exact q0
    have t0' : (zz == 0) = false := by simpa using q0
    have hne : ¬ (outY (N : Int) xss (k : Int)).length = 0 := fun h => by
      have e := List.eq_nil_of_length_eq_zero h
      rw [← hy] at e
      exact q0 ((ptsN_nil zz zz32).1 e)
    have HPt := HPt0.out zz zz32 hy
    obtain ⟨v1, v2, v3⟩ := DPO.out hne
    rw [← v1, ← v2, ← v3] at HPt
    clear hy hne v1 v2 v3 hzz HPt0 DPO DPE PZ
    obtain ⟨qn, hqn⟩ : ∃ q, dpN (N : Int) xss (k : Int) (outY (N : Int) xss (k : Int)) = q := ⟨_, rfl⟩
    obtain ⟨qc, hqc⟩ : ∃ q, dpC (N : Int) xss (k : Int) (outY (N : Int) xss (k : Int)) = q := ⟨_, rfl⟩
    obtain ⟨ql, hql⟩ : ∃ q, dpL (N : Int) xss (k : Int) (outY (N : Int) xss (k : Int)) = q := ⟨_, rfl⟩
    rw [hqn, hqc, hql] at HPt
    have HQ : Hid (dpN (N : Int) xss (k : Int) (outY (N : Int) xss (k : Int)) = qn ∧ dpC (N : Int) xss (k : Int) (outY (N : Int) xss (k : Int)) = qc ∧ dpL (N : Int) xss (k : Int) (outY (N : Int) xss (k : Int)) = ql) := ⟨hqn, hqc, hql⟩
    have HPt := Lib.hid HPt
    have RR4 := Lib.hid R4
    have BB4 := Lib.hid B4
    have S4 : Hid (B + 1 < w4.heap.size) := s4
    clear b3 c0 c1 R3 B3 b34 R4 B4 N4 hU hS hqn hqc hql hsb U4 s4 hp h2 BK
    go_wp2_with fail
    refine HPt.out.mono ?_
    rintro e w9 ⟨z, rfl, hL, hO⟩
    have s4 := S4.out
    have RX : w9.heap[B + 1]? = some (.cells #[.int .i64 0, .slice none 0 0] 26 (0, 0)) := (hO.block (B + 1) s4).trans RR4.out
    have BX : Hid (Below B w w9) := BB4.out.trans (hO.mono (by omega))
    obtain ⟨ay, ly, cy, rfl⟩ : ∃ a l c, z = .slice a l c := by obtain ⟨a, c, e, -⟩ := hL.at.shape; exact ⟨a, _, c, e⟩
    obtain ⟨d0, d1, f0, f1⟩ := cells2 w9 (B + 1) _ _ _ RX
    have LX := Lib.hid hL
    have RX := Lib.hid RX
    clear hL hO
    go_wp2
    refine endsD (fn := Tryz.f34) (i := 4) (j := 5) rfl w9 (B + 1) _ _ RX.out _ _ _ _ ⟨.slice ay ly cy, by rw [HQ.out.1, HQ.out.2.1]; rfl, ?_, ?_⟩ _ rfl rfl
    · rw [HQ.out.2.2]
      exact (RowsL.off2 LX.out (show B + 1 < w4.heap.size by omega) _ _).mono (by have := HB.out; omega) (by simp [World.setCell]) (Nat.le_refl _)
    · rw [HB.out]
      exact (BX.out.setCell (p := ⟨B + 1, 0, none⟩) (Nat.le_succ B) _).setCell (p := ⟨B + 1, 1, none⟩) (Nat.le_succ B) _
  · obtain ⟨v1, v2, v3, v4⟩ := dp_ask (outY n xss idx) hk
    have hk := Lib.hid hk
    obtain ⟨cd, hcd⟩ : ∃ cd, askC n xss idx = cd := ⟨_, rfl⟩
    rw [hcd] at v3 v4 HO
    have V : Hid (dpN n xss idx (outY n xss idx) = 0 ∧ dpL n xss idx (outY n xss idx) = [] ∧ dpC n xss idx (outY n xss idx) = cd) := ⟨v1, v2, v3⟩
    have t1 : (cd != 0) = true := by simpa using v4
    clear v1 v2 v3 v4 hcd
    go_enter Tryz.func34, Tryz.ntmps34
    go_wp2_with fail
    try rw [hw1]
    try rw [z1]
    try rw [hw2]
    refine HO.out.mono ?_
    rintro e w3 ⟨z, s, rfl, ⟨hz, -⟩, b3⟩
    obtain ⟨rfl, rfl⟩ := hz hk.out
    have s3 : B + 2 ≤ w3.heap.size := by have := b3.size; omega
    have R3 := (b3.block (B + 1) (by omega)).trans HR2.out
    have B3 : Below B w w3 := B2.out.trans (b3.mono (by omega))
    have b34 : Below w3.heap.size w3 (w3.alloc (.cells #[.int .i64 0, .slice none 0 0] 45)) := (Below.refl _ _).alloc (Nat.le_refl _) _
    have R4 := (b34.block (B + 1) (by omega)).trans R3
    have B4 : Below B w (w3.alloc (.cells #[.int .i64 0, .slice none 0 0] 45)) := B3.trans (b34.mono (by omega))
    obtain ⟨d0, d1, f0, f1⟩ := cells2 (w3.alloc (.cells #[.int .i64 0, .slice none 0 0] 45)) (B + 1) _ _ _ R4
    have RR4 := Lib.hid R4
    have BB4 := Lib.hid B4
    clear b3 c0 c1 R3 B3 b34 R4 B4
    go_wp2
    exact EN.out _ cd RR4.out BB4.out V.out _ rfl rfl
end

/-! Derived and residual designs: the model's pieces. -/
section
open Go.RowKit Go.Shelf
set_option linter.unusedVariables false
set_option linter.unusedSimpArgs false

set_option maxRecDepth 100000 in
set_option maxHeartbeats 1000000 in
theorem sPlaces (xs ys : List Int) (hl : ys.length ≤ 32) (w : World) (v u : Value) (hv : IntsAt w v xs) (hu : IntsAt w u ys) :
    Calls Tryz.prog 80 #[v, u] w fun e w' => ∃ r, e = .returned r ∧ Ints w' w.heap.size r (fls ys.length (fun i => decide (ys.getD i 0 ∈ xs))) ∧ Below w.heap.size w w' := by
  obtain ⟨a, cap, rfl, hml, hc⟩ := hu.shape
  obtain ⟨m, hm⟩ : ∃ m, ys.length = m := ⟨_, rfl⟩
  rw [hm] at hl hc hml ⊢
  obtain ⟨B, hB⟩ : ∃ B, w.heap.size = B := ⟨_, rfl⟩
  have HC := Lib.hid (fun W (h : Below B w W) j (hj : j < m) => by
    obtain ⟨g, off, e1, e2⟩ := hc j hj
    exact (⟨g, off, e1, (h.cell (p := ⟨g, off + j, none⟩) (by rw [← hB]; exact World.block_lt_of_cell? w _ e2)).trans e2⟩ : ∃ g off, a = some ⟨g, off, none⟩ ∧ W.cell? ⟨g, off + j, none⟩ = some (.int .i64 (ys.getD j 0))))
  have HH := Lib.hid (fun z W (h : Below B w W) => shas W v xs z (hv.below h (Nat.le_of_eq hB)))
  have RS : Hid (∀ j, fls (j + 1) (fun i => decide (ys.getD i 0 ∈ xs)) = fls j (fun i => decide (ys.getD i 0 ∈ xs)) ++ if decide (ys.getD j 0 ∈ xs) then [(j : Int)] else []) := fun j => fls_succ j _
  have RL : Hid (∀ j, (fls j (fun i => decide (ys.getD i 0 ∈ xs))).length ≤ j) := fun j => fls_len _ _
  obtain ⟨w1, hw1⟩ : ∃ w1, w.alloc (.cells #[] 2) = w1 := ⟨_, rfl⟩
  have I0 : Hid (Ints w1 B (.slice (some ⟨B, 0, none⟩) 0 0) (fls 0 (fun i => decide (ys.getD i 0 ∈ xs)))) := by
    rw [← hw1, ← hB]; exact World.ownsRow_made w #[] 0 (Nat.le_refl _) (by decide) rfl
  have B1 : Hid (Below B w w1) := by rw [← hw1]; exact (Below.refl _ _).alloc (by omega) _
  have HB := Lib.hid hB
  obtain ⟨va, vc, rfl, -, -⟩ := hv.shape
  clear hv hu hc hm
  go_enter Tryz.func80, Tryz.ntmps80
  go_wp2
  try rw [hw1]
  clear hw1 hB
  go_loopw [5, 6] (fun rv i wr => ∃ j : Nat, j ≤ m ∧ i = .int .i64 j ∧ Hid (Ints wr B rv (fls j (fun i => decide (ys.getD i 0 ∈ xs)))) ∧ Hid (Below B w wr)) (fun _ i _ => m - (intOf i).toNat)
  case atStart => exact ⟨0, by omega, rfl, I0, B1⟩
  case round =>
    obtain ⟨j, hj, rfl, hI, hBl⟩ := hrel
    by_cases c : j < m
    · have k1 : decide (j < m) = true := by simpa using c
      have k1' : decide ((j : Int) < (m : Int)) = true := decide_eq_true (by omega)
      have w3 := IntWalk.i64_in ((j : Int) + 1) (by omega)
      have j0 : (0 : Int) ≤ (j : Int) := by omega
      have j1 : (j : Int) < (m : Int) := by omega
      obtain ⟨g, off, rfl, cj⟩ := HC.out wr hBl.out j c
      have RX := RS.out j
      have LJ : (fls j (fun i => decide (ys.getD i 0 ∈ xs))).length < 1000000000000 := by have := RL.out j; omega
      have nz : B ≤ wr.heap.size := by have := hBl.out.size; have := HB.out; omega
      obtain ⟨y, hy⟩ : ∃ y, ys.getD j 0 = y := ⟨_, rfl⟩
      have h1 := Lib.hid (HH.out y wr hBl.out)
      rw [hy] at cj RX
      obtain ⟨b1, hb1⟩ : ∃ q, decide (y ∈ xs) = q := ⟨_, rfl⟩
      rw [hb1] at h1 RX
      clear hb1 hy
      cases b1 with
      | false =>
        have RX2 : Hid (fls (j + 1) (fun i => decide (ys.getD i 0 ∈ xs)) = fls j (fun i => decide (ys.getD i 0 ∈ xs))) := by unfold Hid; rw [RX]; simp
        clear RX
        go_wp2_with fail
        refine h1.out.mono ?_
        rintro e w9 ⟨rfl, rfl⟩
        go_wp2
        go_roundw
        case rel => exact ⟨j + 1, by omega, by go_num, by unfold Hid; rw [RX2.out]; exact hI.out, hBl⟩
        case measure => simp [intOf]; omega
      | true =>
        have RX2 : Hid (fls (j + 1) (fun i => decide (ys.getD i 0 ∈ xs)) = fls j (fun i => decide (ys.getD i 0 ∈ xs)) ++ [(j : Int)]) := by unfold Hid; rw [RX]; simp
        clear RX
        go_wp2_with fail
        refine h1.out.mono ?_
        rintro e w9 ⟨rfl, ew⟩
        subst ew
        go_wp2_with (at_builtin; refine wpList_push wr (by rfl) _ _ (by rfl) B _ _ (by rfl) hI.out (j : Int) _ (by rfl) LJ nz ?_; intro v' w8 hn hb; have HN := Lib.hid hn; have HB8 := Lib.hid hb; clear hn hb)
        go_roundw
        case rel => exact ⟨j + 1, by omega, by go_num, by unfold Hid; rw [RX2.out]; exact HN.out, hBl.out.trans HB8.out⟩
        case measure => simp [intOf]; omega
    · have k1 : decide (j < m) = false := by simpa using c
      have k1' : decide ((j : Int) < (m : Int)) = false := decide_eq_false (by omega)
      obtain rfl : j = m := by omega
      go_wp2
      go_ret
      exact ⟨_, rfl, by rw [HB.out]; exact hI.out, by rw [HB.out]; exact hBl.out⟩

noncomputable def ppN (xss : List (List Int)) (idx : Int) (ys : List Int) : Int := if ys.length = 0 then 0 else dxN ys.length (skL idx (plF xss ys) xss.length)
noncomputable def ppL (xss : List (List Int)) (idx : Int) (ys : List Int) : List (List Int) := if ys.length = 0 then [] else dxL (skL idx (plF xss ys) xss.length)
noncomputable def ppC (xss : List (List Int)) (idx : Int) (ys : List Int) : Int := if ys.length = 0 then 6 else dxC (skL idx (plF xss ys) xss.length)
theorem any_mem {Ls : List (List Int)} (h : [] ∈ Ls) : anyE Ls = true := by
  unfold anyE; rw [List.any_eq_true]; exact ⟨[], h, rfl⟩
theorem any_none {Ls : List (List Int)} (h : ∀ l ∈ Ls, l ≠ []) : anyE Ls = false := by
  unfold anyE; rw [List.any_eq_false]
  intro l hl he
  exact h l hl (List.isEmpty_iff.1 he)
theorem getD_inL {α : Type} {L : List α} {i : Nat} {d : α} (h : i < L.length) : L.getD i d ∈ L := by
  rw [List.getD_eq_getElem?_getD, List.getElem?_eq_getElem h]; exact List.getElem_mem _

set_option maxRecDepth 100000 in
set_option maxHeartbeats 2000000 in
theorem sPart (xss : List (List Int)) (idx : Int) (ys : List Int) (hm : xss.length ≤ 128) (hy : ys.length ≤ 32) (w : World) (v u : Value) (g : Nat) (c1 : w.cell? ⟨g, 1, none⟩ = some v) (hv : RowsAt w v xss) (hu : IntsAt w u ys) :
    Calls Tryz.prog 55 #[.pointer (some ⟨g, 0, none⟩), .int .i64 idx, u] w fun e w' => ∃ z, e = .returned (.tuple #[.agg #[.int .i64 (ppN xss idx ys), z], .int .i64 (ppC xss idx ys)]) ∧ RowsL w' w.heap.size w'.heap.size z (ppL xss idx ys) ∧ Below w.heap.size w w' := by
  obtain ⟨B, hB⟩ : ∃ B, w.heap.size = B := ⟨_, rfl⟩
  have lg : g < B := by rw [← hB]; exact World.block_lt_of_cell? w _ c1
  obtain ⟨a, cap, rfl, K0⟩ := hv.rowsIn
  rw [hB] at K0
  obtain ⟨m, hmm⟩ : ∃ m, xss.length = m := ⟨_, rfl⟩
  have DC := Lib.hid (fun W (h : Below B w W) => (show W.cell? ⟨g, 1, none⟩ = some (.slice a m cap) by rw [← hmm]; exact (h.cell (p := ⟨g, 1, none⟩) lg).trans c1))
  obtain ⟨w1, hw1⟩ : ∃ w1, w.alloc (.cells #[.int .i64 0, .slice none 0 0] 26) = w1 := ⟨_, rfl⟩
  have b1 : Below B w w1 := by rw [← hw1]; exact (Below.refl _ _).alloc (by omega) _
  have z1 : w1.heap.size = B + 1 := by rw [← hw1, World.size_alloc, hB]
  have R1 : w1.heap[B]? = some (.cells #[.int .i64 0, .slice none 0 0] 26 (0, 0)) := by rw [← hw1, ← hB]; exact heap_alloc_new _ _
  have HB := Lib.hid hB
  have EN : Hid (∀ (W : World), W.heap[B]? = some (.cells #[.int .i64 0, .slice none 0 0] 26 (0, 0)) → Below B w W → ppN xss idx ys = 0 ∧ ppL xss idx ys = [] ∧ ppC xss idx ys = 6 → ∀ (tmps : Array Value), tmps.getD 6 undef = .pointer (some ⟨B, 0, none⟩) → tmps.getD 7 undef = .int .i64 6 →
      bodyPost Tryz.prog Tryz.f55 (fun e w' => ∃ z, e = .returned (.tuple #[.agg #[.int .i64 (ppN xss idx ys), z], .int .i64 (ppC xss idx ys)]) ∧ RowsL w' w.heap.size w'.heap.size z (ppL xss idx ys) ∧ Below w.heap.size w w') Exit.ret { tmps := tmps, defers := [] } ((W.setCell ⟨B, 0, none⟩ (.int .i64 0)).setCell ⟨B, 1, none⟩ (.slice none 0 0))) := fun W hk hb hf tmps t2 t3 => by
    refine endsD (fn := Tryz.f55) (i := 6) (j := 7) rfl W B _ _ hk _ _ _ _ ⟨.slice none 0 0, by rw [hf.1, hf.2.2], ?_, ?_⟩ tmps t2 t3
    · rw [hf.2.1]; exact RowsL.nil _ _ _ (Nat.le_refl _)
    · rw [HB.out]
      exact (hb.setCell (p := ⟨B, 0, none⟩) (Nat.le_refl B) _).setCell (p := ⟨B, 1, none⟩) (Nat.le_refl B) _
  obtain ⟨ua, uc, rfl, hul, -⟩ := hu.shape
  obtain ⟨l, hl⟩ : ∃ l, ys.length = l := ⟨_, rfl⟩
  by_cases l0 : ys.length = 0
  · have V : Hid (ppN xss idx ys = 0 ∧ ppL xss idx ys = [] ∧ ppC xss idx ys = 6) := by unfold Hid ppN ppL ppC; rw [if_pos l0, if_pos l0, if_pos l0]; exact ⟨rfl, rfl, rfl⟩
    obtain ⟨d0, d1, f0, f1⟩ := cells2 w1 B _ _ _ R1
    have RR1 := Lib.hid R1
    have BB1 := Lib.hid b1
    rw [l0]
    clear hv hu K0 R1 b1 l0 hl hul
    go_enter Tryz.func55, Tryz.ntmps55
    go_wp2
    try rw [hw1]
    exact EN.out w1 RR1.out BB1.out V.out _ rfl rfl
  have l1 : 0 < l := by omega
  have VV : Hid (ppN xss idx ys = dxN l (skL idx (plF xss ys) m) ∧ ppL xss idx ys = dxL (skL idx (plF xss ys) m) ∧ ppC xss idx ys = dxC (skL idx (plF xss ys) m)) := by unfold Hid ppN ppL ppC; rw [if_neg l0, if_neg l0, if_neg l0, hl, hmm]; exact ⟨rfl, rfl, rfl⟩
  have HPl := Lib.hid (fun k (hk : k < m) W (h : Below B w W) x (hx : IntsAt W x (xss.getD k [])) => sPlaces (xss.getD k []) ys hy W x _ hx (hu.below h (Nat.le_of_eq hB)))
  have KR := Lib.hid (fun W (h : Below B w W) j (hj : j < m) => K0 W h j (by rw [hmm]; exact hj))
  have SK : Hid (∀ k, skL idx (plF xss ys) (k + 1) = skL idx (plF xss ys) k ++ if (k : Int) = idx then [] else [plF xss ys k]) := fun k => rfl
  have SI : Hid (∀ k, k < m → (k : Int) ≠ idx → plF xss ys k ∈ skL idx (plF xss ys) m) := fun k hk hne => skL_in idx _ hne m hk
  have SL : Hid (∀ k, (skL idx (plF xss ys) k).length ≤ k) := fun k => skL_len _ _ k
  have PF : Hid (∀ k, fls ys.length (fun i => decide (ys.getD i 0 ∈ xss.getD k [])) = plF xss ys k) := fun k => rfl
  have PR : Hid (∀ k, Rises 0 ((l : Int) - 1) (plF xss ys k) ∧ (plF xss ys k).length ≤ 32) := fun k => by
    unfold plF; rw [hl]; exact ⟨fls_rises l _, Nat.le_trans (fls_len _ _) (by omega)⟩
  have SM : Hid (∀ k x, x ∈ skL idx (plF xss ys) k → ∃ i, x = plF xss ys i) := fun k x hx => by obtain ⟨i, -, e⟩ := skL_mem idx _ k x hx; exact ⟨i, e⟩
  obtain ⟨F, hF⟩ : ∃ F, plF xss ys = F := ⟨_, rfl⟩
  simp only [hF] at VV SK SI SL PF PR SM
  simp only [hl] at PF
  simp only [hl, PF.out] at HPl
  have l32 : l ≤ 32 := by omega
  obtain ⟨w2, hw2⟩ : ∃ w2, w1.alloc (.cells #[] 40) = w2 := ⟨_, rfl⟩
  have b12 : Below (B + 1) w1 w2 := by rw [← hw2]; exact (Below.refl _ _).alloc (by omega) _
  have z2 : w2.heap.size = B + 2 := by rw [← hw2, World.size_alloc, z1]
  have M0 : Hid (RowsL w2 (B + 1) w2.heap.size (.slice (some ⟨B + 1, 0, none⟩) 0 0) (skL idx F 0)) := by
    have := RowsL.made w1 (B + 1) 0 #[] (by omega) (by decide) rfl
    rw [← World.size_alloc w1 (.cells #[] 40), hw2, z1] at this
    exact this
  have R2 := Lib.hid ((b12.block B (Nat.lt_succ_self B)).trans R1)
  have B2 : Hid (Below B w w2) := b1.trans (b12.mono (by omega))
  have BQ : Hid (Below (B + 1) w2 w2) := Below.refl _ _
  have ZZ := Lib.hid z2
  have N0 : Hid (∀ x ∈ skL idx F 0, x ≠ []) := fun x hx => by cases hx
  have u0 : ¬ (l : Int) = 0 := by omega
  have u1 : ((l : Int) == 0) = false := by simp; omega
  have u2 : (l == 0) = false := by simp; omega
  rw [hl]
  clear hv hu K0 R1 b1 b12 l0 hl hul hF c1
  go_enter Tryz.func55, Tryz.ntmps55
  go_wp2
  try rw [hw1]
  try rw [z1]
  try rw [hw2]
  clear hw1 hw2 z1 z2
  go_loopw [8, 9] (fun rv i wr => ∃ k : Nat, k ≤ m ∧ i = .int .i64 k ∧ Hid (RowsL wr (B + 1) wr.heap.size rv (skL idx F k)) ∧ Hid (Below (B + 1) w2 wr) ∧ Hid (∀ x ∈ skL idx F k, x ≠ [])) (fun _ i _ => m - (intOf i).toNat)
  case atStart => exact ⟨0, by omega, rfl, M0, BQ, N0⟩
  case round =>
    obtain ⟨k, hk, rfl, hR, hBl, hN⟩ := hrel
    have BW : Hid (Below B w wr) := B2.out.trans (hBl.out.mono (by omega))
    have cc1 := DC.out wr BW.out
    have bz : B + 1 ≤ wr.heap.size := by have := hBl.out.size; have := ZZ.out; omega
    by_cases c : k < m
    · have k1 : decide (k < m) = true := by simpa using c
      have k1' : decide ((k : Int) < (m : Int)) = true := decide_eq_true (by omega)
      have wk := IntWalk.i64_in ((k : Int) + 1) (by omega)
      have j0 : (0 : Int) ≤ (k : Int) := by omega
      have j1 : (k : Int) < (m : Int) := by omega
      by_cases ei : (k : Int) = idx
      · have E1 : Hid (skL idx F (k + 1) = skL idx F k) := by have := SK.out k; rwa [if_pos ei, List.append_nil] at this
        subst ei
        have t1 : ((k : Int) == (k : Int)) = true := by simp
        go_wp2
        go_roundw
        case rel => exact ⟨k + 1, by omega, by go_num, by unfold Hid; rw [E1.out]; exact hR.out, hBl, by unfold Hid; rw [E1.out]; exact hN.out⟩
        case measure => simp [intOf]; omega
      · have t1 : ((k : Int) == idx) = false := by simpa using ei
        obtain ⟨g1, o1, ux, rfl, e2, e3⟩ := KR.out wr BW.out k c
        have HP := Lib.hid (HPl.out k c wr BW.out ux e3)
        have E0 := SK.out k
        rw [if_neg ei] at E0
        have E0 := Lib.hid E0
        have IN := Lib.hid (SI.out k c ei)
        have ei := Lib.hid ei
        obtain ⟨b, hb⟩ : ∃ b, wr.heap.size = b := ⟨_, rfl⟩
        rw [hb] at HP bz hR
        have hb' := Lib.hid hb
        obtain ⟨uxa, uxc, rfl, -, -⟩ := e3.shape
        obtain ⟨lx, hlx⟩ : ∃ lx, (xss.getD k []).length = lx := ⟨_, rfl⟩
        rw [hlx] at e2 HP
        clear e3 hlx
        go_wp2_with fail
        refine HP.out.mono ?_
        rintro e w5 ⟨r, rfl, hI, b5⟩
        have R5 := Lib.hid (hR.out.below b5 (Nat.le_of_eq hb'.out))
        have B5 : Hid (Below (B + 1) w2 w5) := hBl.out.trans (b5.mono bz)
        have W5 : Hid (Below B w w5) := BW.out.trans (b5.mono (by omega))
        obtain ⟨ra, rc, rfl⟩ := hI.len_eq
        have I5 := Lib.hid hI
        obtain ⟨lf, hlf⟩ : ∃ lf, (F k).length = lf := ⟨_, rfl⟩
        rw [hlf]
        rw [hlf] at I5
        have s5 : b ≤ w5.heap.size := by have := b5.size; have := hb'.out; omega
        clear hI b5 hb e2 cc1 HP
        by_cases lz : lf = 0
        · have V : Hid (ppN xss idx ys = 0 ∧ ppL xss idx ys = [] ∧ ppC xss idx ys = 6) := by
            have e := any_mem (Ls := skL idx F m) (by have := IN.out; rwa [List.eq_nil_of_length_eq_zero (hlf.trans lz)] at this)
            have d := dx_empty (l : Int) e
            exact ⟨VV.out.1.trans d.1, VV.out.2.1.trans d.2.1, VV.out.2.2.trans d.2.2⟩
          have R9 : w5.heap[B]? = some (.cells #[.int .i64 0, .slice none 0 0] 26 (0, 0)) := (B5.out.block B (by omega)).trans R2.out
          obtain ⟨d0, d1, f0, f1⟩ := cells2 w5 B _ _ _ R9
          have R9 := Lib.hid R9
          subst lz
          clear hlf
          go_wp2
          exact EN.out w5 R9.out W5.out V.out _ rfl rfl
        · have q1 : ((lf : Int) == 0) = false := by simp; omega
          have q2 : (lf == 0) = false := by simp; omega
          have NE : Hid (∀ x ∈ skL idx F (k + 1), x ≠ []) := fun x hx => by
            rw [E0.out, List.mem_append, List.mem_singleton] at hx
            rcases hx with hx | rfl
            · exact hN.out x hx
            · intro h; rw [h] at hlf; simp at hlf; omega
          have gl : (skL idx F k).length < 1000000000 := by have := SL.out k; omega
          clear hlf lz
          go_wp2_with (at_builtin; refine wpList_pushR w5 (by rfl) _ _ (by rfl) (B + 1) b _ _ _ _ (by rfl) R5.out I5.out _ (by rfl) gl bz ?_; intro v' w8 hn hb; have HN := Lib.hid hn; have HB8 := Lib.hid hb; clear hn hb)
          go_roundw
          case rel => exact ⟨k + 1, by omega, by go_num, by unfold Hid; rw [E0.out]; exact HN.out, B5.out.trans HB8.out, NE⟩
          case measure => simp [intOf]; omega
    · have k1 : decide (k < m) = false := by simpa using c
      have k1' : decide ((k : Int) < (m : Int)) = false := decide_eq_false (by omega)
      obtain rfl : k = m := by omega
      have hne := any_none hN.out
      have hrise : ∀ i, i < (skL idx F k).length → Rises 0 ((l : Int) - 1) ((skL idx F k).getD i []) ∧ ((skL idx F k).getD i []).length ≤ 32 := fun i hi => by
        obtain ⟨q, e⟩ := SM.out k _ (getD_inL (d := []) hi)
        rw [e]; exact PR.out q
      have DM := dx_mk (n := (l : Int)) (by omega) (by omega) hne (fun i hi => (hrise i hi).1)
      have HM := sMake (l : Int) (by omega) (by omega) (skL idx F k) (by have := SL.out k; omega) (fun i hi => by have := (hrise i hi).2; omega) wr _ hR.out.at
      rw [DM.1, DM.2.1, DM.2.2, ← VV.out.1, ← VV.out.2.1, ← VV.out.2.2] at HM
      obtain ⟨qn, hqn⟩ : ∃ q, ppN xss idx ys = q := ⟨_, rfl⟩
      obtain ⟨qc, hqc⟩ : ∃ q, ppC xss idx ys = q := ⟨_, rfl⟩
      obtain ⟨ql, hql⟩ : ∃ q, ppL xss idx ys = q := ⟨_, rfl⟩
      rw [hqn, hqc, hql] at HM
      have HQ : Hid (ppN xss idx ys = qn ∧ ppC xss idx ys = qc ∧ ppL xss idx ys = ql) := ⟨hqn, hqc, hql⟩
      have HM := Lib.hid HM
      have R8 := Lib.hid ((hBl.out.block B (by omega)).trans R2.out)
      obtain ⟨va, vc', rfl, -⟩ := hR.out.at.shape
      clear hqn hqc hql DM hne hrise hN hR
      go_wp2_with fail
      refine HM.out.mono ?_
      rintro e w9 ⟨z, rfl, hL, hO⟩
      have RX : w9.heap[B]? = some (.cells #[.int .i64 0, .slice none 0 0] 26 (0, 0)) := (hO.block B (by omega)).trans R8.out
      have BX : Hid (Below B w w9) := BW.out.trans (hO.mono (by omega))
      obtain ⟨ay, ly, cy, rfl⟩ : ∃ a l c, z = .slice a l c := by obtain ⟨a, c, e, -⟩ := hL.at.shape; exact ⟨a, _, c, e⟩
      obtain ⟨d0, d1, f0, f1⟩ := cells2 w9 B _ _ _ RX
      have LX := Lib.hid hL
      have RX := Lib.hid RX
      clear hL hO
      go_wp2
      refine endsD (fn := Tryz.f55) (i := 6) (j := 7) rfl w9 B _ _ RX.out _ _ _ _ ⟨.slice ay ly cy, by rw [HQ.out.1, HQ.out.2.1]; rfl, ?_, ?_⟩ _ rfl rfl
      · rw [HQ.out.2.2]
        exact (RowsL.off2 LX.out (show B < wr.heap.size by omega) _ _).mono (by have := HB.out; omega) (by simp [World.setCell]) (Nat.le_refl _)
      · rw [HB.out]
        exact (BX.out.setCell (p := ⟨B, 0, none⟩) (Nat.le_refl B) _).setCell (p := ⟨B, 1, none⟩) (Nat.le_refl B) _

/-! Derived and residual designs: the model's. -/
section
open Go.RowKit Go.Shelf
set_option linter.unusedVariables false
set_option linter.unusedSimpArgs false

theorem rises_ge {n : Int} {xs : List Int} (h : Rises 0 (n - 1) xs) : ∀ i, i < xs.length → (i : Int) ≤ xs.getD i 0
  | 0, hi => by have := (h 0 hi).1; omega
  | i + 1, hi => by
    have a := (h (i + 1) hi).2.2 (by omega)
    have b := rises_ge h i (by omega)
    rw [show i + 1 - 1 = i by omega] at a
    omega
theorem blk_len {n : Int} {xs : List Int} (hn : n ≤ 32) (h : Rises 0 (n - 1) xs) : xs.length ≤ 32 := by
  by_cases c : xs.length = 0
  · omega
  · have a := rises_ge h (xs.length - 1) (by omega)
    have b := (h (xs.length - 1) (by omega)).2.1
    omega
theorem dp_pp {n : Int} {xss : List (List Int)} {idx : Int} (ys : List Int) (h : desB n xss = true ∧ inIdx idx xss.length = true) : dpN n xss idx ys = ppN xss idx ys ∧ dpL n xss idx ys = ppL xss idx ys ∧ dpC n xss idx ys = ppC xss idx ys := by
  unfold dpN dpL dpC ppN ppL ppC; rw [h.1, h.2, if_pos rfl, if_pos rfl, if_pos rfl, if_pos rfl, if_pos rfl, if_pos rfl]; exact ⟨rfl, rfl, rfl⟩

set_option maxRecDepth 100000 in
set_option maxHeartbeats 1000000 in
theorem sAsk (n : Int) (xss : List (List Int)) (idx : Int) (w : World) (v : Value) (g : Nat) (c0 : w.cell? ⟨g, 0, none⟩ = some (.int .i64 n)) (c1 : w.cell? ⟨g, 1, none⟩ = some v) (hv : RowsAt w v xss) :
    Calls Tryz.prog 54 #[.pointer (some ⟨g, 0, none⟩), .int .i64 idx] w fun e w' => e = .returned (.int .i64 (askC n xss idx)) ∧ ∃ d, w' = w.drewN d := by
  have HO := Lib.hid (sOk n xss w v g c0 c1 hv)
  obtain ⟨a, cap, rfl, -⟩ := hv.shape
  have hml := hv.1
  obtain ⟨m, hm⟩ : ∃ m, xss.length = m := ⟨_, rfl⟩
  rw [hm] at c1 hml
  have HM := Lib.hid hm
  have DC := Lib.hid (fun d => (show (w.drewN d).cell? ⟨g, 1, none⟩ = some (.slice a m cap) from c1))
  cases hp : desB n xss with
  | false =>
    have V := Lib.hid (ask_no idx hp)
    rw [hp] at HO
    clear hp hv c0 c1
    go_enter Tryz.func54, Tryz.ntmps54
    go_wp2_with fail
    refine HO.out.mono ?_
    rintro e w3 ⟨rfl, d, rfl⟩
    go_wp2
    go_ret
    exact ⟨by rw [V.out]; rfl, d, rfl⟩
  | true =>
    have HP := Lib.hid hp
    rw [hp] at HO
    have m128 : m ≤ 128 := by have := (of_desB hp).2.2.1; omega
    have w1 := IntWalk.i64_in ((m : Int) - 1) (by omega)
    have HA := Lib.hid (fun W => in_any idx 0 ((m : Int) - 1) W)
    clear hp hv c0 c1
    go_enter Tryz.func54, Tryz.ntmps54
    go_wp2_with fail
    refine HO.out.mono ?_
    rintro e w3 ⟨rfl, d, rfl⟩
    have c3 := DC.out d
    go_wp2_with fail
    by_cases q : 0 ≤ idx ∧ idx ≤ (m : Int) - 1
    · rw [decide_eq_true q] at HA
      have V := Lib.hid (ask_ok HP.out (show inIdx idx xss.length = true from decide_eq_true (by rw [HM.out]; omega)))
      clear q
      refine (HA.out _).mono ?_
      rintro e w5 ⟨rfl, rfl⟩
      go_wp2
      go_ret
      exact ⟨by rw [V.out]; rfl, d, rfl⟩
    · rw [decide_eq_false q] at HA
      have V := Lib.hid (ask_range HP.out (show inIdx idx xss.length = false from decide_eq_false (by rw [HM.out]; omega)))
      clear q
      refine (HA.out _).mono ?_
      rintro e w5 ⟨rfl, rfl⟩
      go_wp2
      go_ret
      exact ⟨by rw [V.out]; rfl, d, rfl⟩

set_option maxRecDepth 100000 in
set_option maxHeartbeats 2000000 in
theorem sResidualDesign (n : Int) (xss : List (List Int)) (idx : Int) (w : World) (v : Value) (hv : RowsAt w v xss) :
    Calls Tryz.prog 31 #[.agg #[.int .i64 n, v], .int .i64 idx] w fun e w' => ∃ z, e = .returned (.tuple #[.agg #[.int .i64 (dpN n xss idx (outY n xss idx)), z], .int .i64 (dpC n xss idx (outY n xss idx))]) ∧ RowsL w' w.heap.size w'.heap.size z (dpL n xss idx (outY n xss idx)) ∧ Below w.heap.size w w' := by
  have hx := hv
  obtain ⟨va, cap, rfl, K0⟩ := hv.rowsIn
  obtain ⟨m, hm⟩ : ∃ m, xss.length = m := ⟨_, rfl⟩
  rw [hm] at hv K0 hx ⊢
  have HM := Lib.hid hm
  obtain ⟨B, hB⟩ : ∃ B, w.heap.size = B := ⟨_, rfl⟩
  rw [hB] at K0
  obtain ⟨w1, hw1⟩ : ∃ w1, w.alloc (.cells #[.int .i64 n, .slice va m cap] 26) = w1 := ⟨_, rfl⟩
  have z1 : w1.heap.size = B + 1 := by rw [← hw1, World.size_alloc, hB]
  have b1 : Below B w w1 := by rw [← hw1]; exact (Below.refl _ _).alloc (by omega) _
  have A1 : w1.heap[B]? = some (.cells #[.int .i64 n, .slice va m cap] 26 (0, 0)) := by rw [← hw1, ← hB]; exact heap_alloc_new _ _
  obtain ⟨w2, hw2⟩ : ∃ w2, w1.alloc (.cells #[.int .i64 0, .slice none 0 0] 26) = w2 := ⟨_, rfl⟩
  have z2 : w2.heap.size = B + 2 := by rw [← hw2, World.size_alloc, z1]
  have b12 : Below (B + 1) w1 w2 := by rw [← hw2]; exact (Below.refl _ _).alloc (Nat.le_of_eq z1.symm) _
  have b2 : Below B w w2 := b1.trans (b12.mono (Nat.le_succ B))
  have R2 : w2.heap[B + 1]? = some (.cells #[.int .i64 0, .slice none 0 0] 26 (0, 0)) := by rw [← hw2, ← z1]; exact heap_alloc_new _ _
  have A2 := (b12.block B (Nat.lt_succ_self B)).trans A1
  obtain ⟨c0, c1, -, -⟩ := cells2 w2 B _ _ _ A2
  have hv2 := hx.below b2 (by omega)
  have HO := Lib.hid (sAsk n xss idx w2 _ B c0 c1 hv2)
  have HB := Lib.hid hB
  have B2 := Lib.hid b2
  have HR2 := Lib.hid R2
  have EN : Hid (∀ (W : World) (cd : Int), W.heap[B + 1]? = some (.cells #[.int .i64 0, .slice none 0 0] 26 (0, 0)) → Below B w W → dpN n xss idx (outY n xss idx) = 0 ∧ dpL n xss idx (outY n xss idx) = [] ∧ dpC n xss idx (outY n xss idx) = cd → ∀ (tmps : Array Value), tmps.getD 4 undef = .pointer (some ⟨B + 1, 0, none⟩) → tmps.getD 5 undef = .int .i64 cd →
      bodyPost Tryz.prog Tryz.f31 (fun e w' => ∃ z, e = .returned (.tuple #[.agg #[.int .i64 (dpN n xss idx (outY n xss idx)), z], .int .i64 (dpC n xss idx (outY n xss idx))]) ∧ RowsL w' w.heap.size w'.heap.size z (dpL n xss idx (outY n xss idx)) ∧ Below w.heap.size w w') Exit.ret { tmps := tmps, defers := [] } ((W.setCell ⟨B + 1, 0, none⟩ (.int .i64 0)).setCell ⟨B + 1, 1, none⟩ (.slice none 0 0))) := fun W cd hk hb hf tmps t2 t3 => by
    refine endsD (fn := Tryz.f31) (i := 4) (j := 5) rfl W (B + 1) _ _ hk _ _ _ _ ⟨.slice none 0 0, by rw [hf.1, hf.2.2], ?_, ?_⟩ tmps t2 t3
    · rw [hf.2.1]; exact RowsL.nil _ _ _ (Nat.le_refl _)
    · rw [HB.out]
      exact (hb.setCell (p := ⟨B + 1, 0, none⟩) (Nat.le_succ B) _).setCell (p := ⟨B + 1, 1, none⟩) (Nat.le_succ B) _
  by_cases hk : desB n xss = true ∧ inIdx idx xss.length = true
  · obtain ⟨e1, e2, e3⟩ := dp_pp (outY n xss idx) hk
    have D := of_desB hk.1
    have A0 := ask_ok hk.1 hk.2
    rw [A0] at HO
    obtain ⟨k0, k1⟩ := of_decide_eq_true hk.2
    obtain ⟨k, rfl⟩ : ∃ k : Nat, idx = k := ⟨idx.toNat, by omega⟩
    obtain ⟨N, rfl⟩ : ∃ N : Nat, n = N := ⟨n.toNat, by have := D.1; omega⟩
    have n32 : N ≤ 32 := by have := D.2.1; omega
    have m128 : m ≤ 128 := by have := D.2.2.1; omega
    have hkm : k < m := by omega
    have BK := (D.2.2.2 k (by omega)).1
    have yl : (xss.getD k []).length ≤ 32 := blk_len (by omega) BK.2
    obtain ⟨g1, o1, u, rfl, u2, u3⟩ := K0 w2 b2 k (by omega)
    have u3' := u3
    have gB : g1 < B := by
      obtain ⟨p, q, r, e, c, -⟩ := K0 w (Below.refl _ _) k (by omega)
      simp only [Option.some.injEq, Addr.mk.injEq] at e
      obtain ⟨rfl, rfl, -⟩ := e
      rw [← hB]; exact World.block_lt_of_cell? w _ c
    obtain ⟨ua, uc, rfl, -, -⟩ := u3.shape
    obtain ⟨lu, hlu⟩ : ∃ lu, (xss.getD k []).length = lu := ⟨_, rfl⟩
    have j0 : (0 : Int) ≤ (k : Int) := by omega
    have j1 : (k : Int) < (m : Int) := by omega
    have DD : Hid (∀ d, (w2.drewN d).cell? ⟨B, 0, none⟩ = some (.int .i64 (N : Int)) ∧ (w2.drewN d).cell? ⟨B, 1, none⟩ = some (.slice (some ⟨g1, o1, none⟩) m cap) ∧ (w2.drewN d).cell? ⟨g1, o1 + k, none⟩ = some (.slice ua lu uc)) := fun d => ⟨c0, c1, by rw [← hlu]; exact u2⟩
    have SZ2 := Lib.hid z2
    have eY : cmbA (fun a b => a && !b) (fls N (fun _ => true)) (xss.getD k []) = (outY (N : Int) xss (k : Int)) := by unfold outY; rw [Int.toNat_natCast, Int.toNat_natCast]; exact cmb_all (n := (N : Int)) rfl n32 BK.2
    have HAl := Lib.hid (fun W => sAllP N n32 W)
    have yl2 : (outY (N : Int) xss (k : Int)).length ≤ 32 := by unfold outY; exact Nat.le_trans (fls_len _ _) (by rw [Int.toNat_natCast]; exact n32)
    have HMi := Lib.hid (fun W (h : Below (B + 2) w2 W) uu (hu : Ints W (B + 2) uu (fls N (fun _ => true))) => sMinusSets (fls N (fun _ => true)) (xss.getD k []) uu (.slice ua lu uc) W (B + 2) hu (by have := u3'.below h (Nat.le_of_eq z2); rwa [hlu] at this))
    simp only [eY] at HMi
    have CC := Lib.hid (fun W (h : Below (B + 2) w2 W) => (show W.cell? ⟨B, 1, none⟩ = some (.slice (some ⟨g1, o1, none⟩) m cap) from (h.cell (p := ⟨B, 1, none⟩) (by show B < B + 2; omega)).trans c1))
    have g1lt : g1 < B + 2 := by rw [← z2]; exact World.block_lt_of_cell? w2 _ u2
    have KEEP : Hid (∀ W, Below (B + 2) w2 W → W.cell? ⟨B, 0, none⟩ = some (.int .i64 (N : Int)) ∧ W.cell? ⟨B, 1, none⟩ = some (.slice (some ⟨g1, o1, none⟩) m cap) ∧ W.cell? ⟨g1, o1 + k, none⟩ = some (.slice ua lu uc)) := fun W h =>
      ⟨(h.cell (p := ⟨B, 0, none⟩) (by show B < B + 2; omega)).trans c0, CC.out W h, by rw [← hlu]; exact (h.cell (p := ⟨g1, o1 + k, none⟩) g1lt).trans u2⟩
    have HPt0 := Lib.hid (fun W (h : Below (B + 2) w2 W) uu (hu : IntsAt W uu (outY (N : Int) xss (k : Int))) => sPart xss (k : Int) (outY (N : Int) xss (k : Int)) (by omega) yl2 W _ _ B (CC.out W h) (hv2.below h (Nat.le_of_eq z2)) hu)
    obtain ⟨qn, hqn⟩ : ∃ q, ppN xss (k : Int) (outY (N : Int) xss (k : Int)) = q := ⟨_, rfl⟩
    obtain ⟨qc, hqc⟩ : ∃ q, ppC xss (k : Int) (outY (N : Int) xss (k : Int)) = q := ⟨_, rfl⟩
    obtain ⟨ql, hql⟩ : ∃ q, ppL xss (k : Int) (outY (N : Int) xss (k : Int)) = q := ⟨_, rfl⟩
    simp only [hqn, hqc, hql] at HPt0
    have HQ : Hid (dpN (N : Int) xss (k : Int) (outY (N : Int) xss (k : Int)) = qn ∧ dpC (N : Int) xss (k : Int) (outY (N : Int) xss (k : Int)) = qc ∧ dpL (N : Int) xss (k : Int) (outY (N : Int) xss (k : Int)) = ql) := ⟨e1.trans hqn, e3.trans hqc, e2.trans hql⟩
    clear hv hx K0 A1 b1 A2 R2 b12 b2 hv2 c0 c1 hqn hqc hql e1 e2 e3 D BK u2 u3 u3' yl A0 k0 k1 hk hlu eY
    go_enter Tryz.func31, Tryz.ntmps31
    go_wp2_with fail
    try rw [hw1]
    try rw [z1]
    try rw [hw2]
    refine HO.out.mono ?_
    rintro e w3 ⟨rfl, d, rfl⟩
    have BQ : Below (B + 2) w2 (w2.drewN d).drew := (below_drewN (Below.refl _ _) d).drew
    go_wp2
    refine wp_region_held_drew (S := fun w' => w'.cell? ⟨B, 0, none⟩ = some (.int .i64 (N : Int)) ∧ w'.cell? ⟨B, 1, none⟩ = some (.slice (some ⟨g1, o1, none⟩) m cap) ∧ w'.cell? ⟨g1, o1 + k, none⟩ = some (.slice ua lu uc)) (by kernel_rfl) (KEEP.out _ BQ) (fun hHeld => ?_)
    refine wpAnyH_take (i := 0) (oi := { dst := some 13, op := Op.move (Operand.tmp 1), type := 2, pos := "l10_designs.go:261", after := #[], guard := none }) (v := ?_) rfl (by kernel_rfl) (by kernel_rfl) (by kernel_rfl) (fun _ _ _ h => h) (Or.inl ⟨by rfl, ?_⟩) (by assumption) ?_
    rotate_left
    · intro w hSw; (try dsimp only at hSw); go_simp
      try with_reducible rfl
    simp only [Act.put, List.setIfInBounds_toArray, List.set_cons_zero, List.set_cons_succ]
    refine wpAnyH_take (i := 1) (oi := { dst := some 14, op := Op.fieldAddr 26 (Operand.tmp 2) 0, type := 0, pos := "l10_designs.go:261", after := #[], guard := none }) (v := ?_) rfl (by kernel_rfl) (by kernel_rfl) (by kernel_rfl) (fun _ _ _ h => h) (Or.inl ⟨by rfl, ?_⟩) (by assumption) ?_
    rotate_left
    · intro w hSw; (try dsimp only at hSw); go_simp
      try with_reducible rfl
    simp only [Act.put, List.setIfInBounds_toArray, List.set_cons_zero, List.set_cons_succ]
    refine wpAnyH_take (i := 2) (oi := { dst := some 15, op := Op.load 2 (Operand.tmp 14), type := 2, pos := "l10_designs.go:261", after := #[{ on := 1, ground := Ground.data }], guard := none }) (v := ?_) rfl (by kernel_rfl) (by kernel_rfl) (by kernel_rfl) (fun _ _ _ h => h) (Or.inl ⟨by rfl, ?_⟩) (by assumption) ?_
    rotate_left
    · intro w hSw; (try dsimp only at hSw); go_simp
      try with_reducible rfl
    simp only [Act.put, List.setIfInBounds_toArray, List.set_cons_zero, List.set_cons_succ]
    refine wpAnyH_take (i := 4) (oi := { dst := some 17, op := Op.fieldAddr 26 (Operand.tmp 2) 1, type := 0, pos := "l10_designs.go:261", after := #[], guard := none }) (v := ?_) rfl (by kernel_rfl) (by kernel_rfl) (by kernel_rfl) (fun _ _ _ h => h) (Or.inl ⟨by rfl, ?_⟩) (by assumption) ?_
    rotate_left
    · intro w hSw; (try dsimp only at hSw); go_simp
      try with_reducible rfl
    simp only [Act.put, List.setIfInBounds_toArray, List.set_cons_zero, List.set_cons_succ]
    refine wpAnyH_take (i := 5) (oi := { dst := some 18, op := Op.load 22 (Operand.tmp 17), type := 22, pos := "l10_designs.go:261", after := #[{ on := 4, ground := Ground.data }], guard := none }) (v := ?_) rfl (by kernel_rfl) (by kernel_rfl) (by kernel_rfl) (fun _ _ _ h => h) (Or.inl ⟨by rfl, ?_⟩) (by assumption) ?_
    rotate_left
    · intro w hSw; (try dsimp only at hSw); go_simp
      try with_reducible rfl
    simp only [Act.put, List.setIfInBounds_toArray, List.set_cons_zero, List.set_cons_succ]
    refine wpAnyH_take (i := 6) (oi := { dst := some 19, op := Op.move (Operand.tmp 1), type := 2, pos := "l10_designs.go:261", after := #[], guard := none }) (v := ?_) rfl (by kernel_rfl) (by kernel_rfl) (by kernel_rfl) (fun _ _ _ h => h) (Or.inl ⟨by rfl, ?_⟩) (by assumption) ?_
    rotate_left
    · intro w hSw; (try dsimp only at hSw); go_simp
      try with_reducible rfl
    simp only [Act.put, List.setIfInBounds_toArray, List.set_cons_zero, List.set_cons_succ]
    refine wpAnyH_take (i := 7) (oi := { dst := some 20, op := Op.indexAddr 22 (Operand.tmp 18) (Operand.tmp 19), type := 0, pos := "l10_designs.go:261", after := #[{ on := 5, ground := Ground.data }, { on := 6, ground := Ground.data }], guard := none }) (v := ?_) rfl (by kernel_rfl) (by kernel_rfl) (by kernel_rfl) (fun _ _ _ h => h) (Or.inl ⟨by rfl, ?_⟩) (by assumption) ?_
    rotate_left
    · intro w hSw; (try dsimp only at hSw); go_simp
      try with_reducible rfl
    simp only [Act.put, List.setIfInBounds_toArray, List.set_cons_zero, List.set_cons_succ]
    refine wpAnyH_take (i := 8) (oi := { dst := some 21, op := Op.load 40 (Operand.tmp 20), type := 40, pos := "l10_designs.go:261", after := #[{ on := 7, ground := Ground.data }], guard := none }) (v := ?_) rfl (by kernel_rfl) (by kernel_rfl) (by kernel_rfl) (fun _ _ _ h => h) (Or.inl ⟨by rfl, ?_⟩) (by assumption) ?_
    rotate_left
    · intro w hSw; (try dsimp only at hSw); go_simp
      try with_reducible rfl
    simp only [Act.put, List.setIfInBounds_toArray, List.set_cons_zero, List.set_cons_succ]
    refine wpAnyH_ready (rs := [3]) (by kernel_rfl) (by simp) ?_
    refine AllReadyH.cons rfl (fun K' hK' => ?_) AllReadyH.nil
    go_simp
    go_wp2_with fail
    refine (HAl.out _).mono ?_
    rintro e w6 ⟨r6, rfl, i6, b6⟩
    have s5 : (w2.drewN (d + 1)).heap.size = B + 2 := SZ2.out
    rw [s5] at i6 b6
    have B6 : Below (B + 2) w2 w6 := (below_drewN (Below.refl _ _) (d + 1)).trans b6
    obtain ⟨ra6, rc6, rfl⟩ := i6.len_eq
    have HM6 := Lib.hid (HMi.out w6 B6 _ i6)
    have B6 := Lib.hid B6
    refine hK'.out _ _ (KEEP.out _ B6.out) (fun hHeld => ?_)
    clear hK' K' i6 b6 s5
    refine wpAnyH_ready (rs := [9]) (by kernel_rfl) (by simp) ?_
    refine AllReadyH.cons rfl (fun K' hK' => ?_) AllReadyH.nil
    go_simp
    go_wp2_with fail
    refine HM6.out.mono ?_
    rintro e w7 ⟨r7, rfl, i7, b7⟩
    have B7 : Hid (Below (B + 2) w2 w7) := B6.out.trans (b7.mono (by have := B6.out.size; have := SZ2.out; omega))
    have I7 : Hid (IntsAt w7 r7 (outY (N : Int) xss (k : Int))) := i7.at
    obtain ⟨ra7, rc7, rfl, -, -⟩ := i7.at.shape
    obtain ⟨l7, hl7⟩ : ∃ l, (outY (N : Int) xss (k : Int)).length = l := ⟨_, rfl⟩
    have HP7 := Lib.hid (HPt0.out w7 B7.out _ I7.out)
    rw [hl7] at HP7 ⊢
    refine hK'.out _ _ (KEEP.out _ B7.out) (fun hHeld => ?_)
    clear hK' K' i7 b7 hl7 I7
    refine wpAnyH_ready (rs := [10]) (by kernel_rfl) (by simp) ?_
    refine AllReadyH.cons rfl (fun K' hK' => ?_) AllReadyH.nil
    go_simp
    go_wp2_with fail
    have SZ : B + 1 < w7.heap.size := by have := B7.out.size; have := SZ2.out; omega
    have R5 : w7.heap[B + 1]? = some (.cells #[.int .i64 0, .slice none 0 0] 26 (0, 0)) := (B7.out.block (B + 1) (by omega)).trans HR2.out
    have B5 : Below B w w7 := B2.out.trans (B7.out.mono (by omega))
    have HPt := HP7.out
    refine HPt.mono ?_
    rintro e w9 ⟨z, rfl, hL, hO⟩
    have RX : w9.heap[B + 1]? = some (.cells #[.int .i64 0, .slice none 0 0] 26 (0, 0)) := (hO.block (B + 1) SZ).trans R5
    have BX : Hid (Below B w w9) := B5.trans (hO.mono (by omega))
    obtain ⟨ay, ly, cy, rfl⟩ : ∃ a l c, z = .slice a l c := by obtain ⟨a, c, e, -⟩ := hL.at.shape; exact ⟨a, _, c, e⟩
    obtain ⟨d0, d1, f0, f1⟩ := cells2 w9 (B + 1) _ _ _ RX
    have LX := Lib.hid hL
    have RX := Lib.hid RX
    have B9 : Hid (Below (B + 2) w2 w9) := B7.out.trans (hO.mono (by have := B7.out.size; have := SZ2.out; omega))
    have SZ := Lib.hid SZ
    clear hL hO HPt R5 B5
    refine hK'.out _ _ (KEEP.out _ B9.out) (fun hHeld => ?_)
    clear hK' K'
    refine wpAnyH_take (i := 11) (oi := { dst := some 24, op := Op.extract (Operand.tmp 23) 0, type := 26, pos := "l10_designs.go:261", after := #[{ on := 10, ground := Ground.data }], guard := none }) (v := ?_) rfl (by kernel_rfl) (by kernel_rfl) (by kernel_rfl) (fun _ _ _ h => h) (Or.inl ⟨by rfl, ?_⟩) (by assumption) ?_
    rotate_left
    · intro w hSw; (try dsimp only at hSw); go_simp
      try with_reducible rfl
    simp only [Act.put, List.setIfInBounds_toArray, List.set_cons_zero, List.set_cons_succ]
    refine wpAnyH_take (i := 12) (oi := { dst := some 25, op := Op.extract (Operand.tmp 23) 1, type := 2, pos := "l10_designs.go:261", after := #[{ on := 10, ground := Ground.data }], guard := none }) (v := ?_) rfl (by kernel_rfl) (by kernel_rfl) (by kernel_rfl) (fun _ _ _ h => h) (Or.inl ⟨by rfl, ?_⟩) (by assumption) ?_
    rotate_left
    · intro w hSw; (try dsimp only at hSw); go_simp
      try with_reducible rfl
    simp only [Act.put, List.setIfInBounds_toArray, List.set_cons_zero, List.set_cons_succ]
    refine wpAnyH_ready (rs := [13]) (by kernel_rfl) (by simp) ?_
    refine AllReadyH.cons rfl (fun K' hK' => ?_) AllReadyH.nil
    go_simp
    refine hK'.out _ _ (by
      obtain ⟨k0, k1, k2⟩ := KEEP.out _ B9.out
      have hg : g1 ≠ B + 1 := by omega
      exact ⟨by rw [World.cell?_setCell_far _ _ _ _ (by show B + 1 ≠ B; omega), World.cell?_setCell_far _ _ _ _ (by show B + 1 ≠ B; omega)]; exact k0, by rw [World.cell?_setCell_far _ _ _ _ (by show B + 1 ≠ B; omega), World.cell?_setCell_far _ _ _ _ (by show B + 1 ≠ B; omega)]; exact k1, by rw [World.cell?_setCell_far _ _ _ _ (fun e => hg e.symm), World.cell?_setCell_far _ _ _ _ (fun e => hg e.symm)]; exact k2⟩) (fun hHeld => ?_)
    clear hK' K'
    refine wpAnyH_take (i := 14) (oi := { dst := some 5, op := Op.assign (Operand.tmp 25), type := 2, pos := "l10_designs.go:261", after := #[{ on := 12, ground := Ground.data }, { on := 13, ground := Ground.chain }, { on := 0, ground := Ground.phase }, { on := 1, ground := Ground.phase }, { on := 2, ground := Ground.phase }, { on := 3, ground := Ground.phase }, { on := 4, ground := Ground.phase }, { on := 5, ground := Ground.phase }, { on := 6, ground := Ground.phase }, { on := 7, ground := Ground.phase }, { on := 8, ground := Ground.phase }, { on := 9, ground := Ground.phase }, { on := 10, ground := Ground.phase }, { on := 11, ground := Ground.phase }, { on := 12, ground := Ground.phase }, { on := 13, ground := Ground.phase }], guard := none }) (v := ?_) rfl (by kernel_rfl) (by kernel_rfl) (by kernel_rfl) (fun _ _ _ h => h) (Or.inl ⟨by rfl, ?_⟩) (by assumption) ?_
    rotate_left
    · intro w hSw; (try dsimp only at hSw); go_simp
      try with_reducible rfl
    simp only [Act.put, List.setIfInBounds_toArray, List.set_cons_zero, List.set_cons_succ]
    refine wpAnyH_done (by kernel_rfl) ?_ _
    clear hHeld
    go_wp2
    have SZ := SZ.out
    refine endsD (fn := Tryz.f31) (i := 4) (j := 5) rfl w9 (B + 1) _ _ RX.out _ _ _ _ ⟨.slice ay ly cy, by rw [HQ.out.1, HQ.out.2.1]; rfl, ?_, ?_⟩ _ rfl rfl
    · rw [HQ.out.2.2]
      exact (RowsL.off2 LX.out (show B + 1 < w7.heap.size from SZ) _ _).mono (by have := HB.out; omega) (by simp [World.setCell]) (Nat.le_refl _)
    · rw [HB.out]
      exact (BX.out.setCell (p := ⟨B + 1, 0, none⟩) (Nat.le_succ B) _).setCell (p := ⟨B + 1, 1, none⟩) (Nat.le_succ B) _
  · obtain ⟨v1, v2, v3, v4⟩ := dp_ask (outY n xss idx) hk
    obtain ⟨cd, hcd⟩ : ∃ cd, askC n xss idx = cd := ⟨_, rfl⟩
    rw [hcd] at v3 v4 HO
    have V : Hid (dpN n xss idx (outY n xss idx) = 0 ∧ dpL n xss idx (outY n xss idx) = [] ∧ dpC n xss idx (outY n xss idx) = cd) := ⟨v1, v2, v3⟩
    have t1 : (cd != 0) = true := by simpa using v4
    have hk := Lib.hid hk
    clear v1 v2 v3 v4 hcd hv hx K0 A1 b1 A2 R2 b12 b2 hv2 c0 c1
    go_enter Tryz.func31, Tryz.ntmps31
    go_wp2_with fail
    try rw [hw1]
    try rw [z1]
    try rw [hw2]
    refine HO.out.mono ?_
    rintro e w3 ⟨rfl, d, rfl⟩
    obtain ⟨d0, d1, f0, f1⟩ := cells2 (w2.drewN d) (B + 1) _ _ _ (show (w2.drewN d).heap[B + 1]? = _ from HR2.out)
    go_wp2
    exact EN.out (w2.drewN d) cd HR2.out (below_drewN B2.out d) V.out _ rfl rfl

theorem skL_tot (idx : Int) (F : Nat → List Int) (h : ∀ i, (F i).length ≤ 32) : ∀ k, tot (skL idx F k) ≤ k * 32
  | 0 => Nat.le_refl _
  | k + 1 => by
    have := skL_tot idx F h k
    have hk := h k
    rw [skL, tot_append]
    split
    · rw [tot_nil]; omega
    · rw [tot_cons, tot_nil]; omega
theorem tot_dpL (n : Int) (xss : List (List Int)) (idx : Int) (ys : List Int) (hy : desB n xss = true → inIdx idx xss.length = true → ys.length ≤ 32) : tot (dpL n xss idx ys) ≤ 5000 := by
  cases hp : desB n xss with
  | false => rw [(dp_no idx ys hp).2.1]; exact Nat.zero_le _
  | true =>
    cases h2 : inIdx idx xss.length with
    | false => rw [(dp_range ys hp h2).2.1]; exact Nat.zero_le _
    | true =>
      have y32 := hy hp h2
      have m128 := (of_desB hp).2.2.1
      by_cases c : ys.length = 0
      · rw [(dp_empty hp h2 c).2.1]; exact Nat.zero_le _
      · rw [(dp_ok hp h2 c).2.1]
        have a := (dxL_tot (skL idx (plF xss ys) xss.length)).1
        have b := skL_tot idx (plF xss ys) (fun i => by unfold plF; exact Nat.le_trans (fls_len _ _) y32) xss.length
        omega
theorem totDerivedDesign (n : Int) (xss : List (List Int)) (idx : Int) : tot (dpL n xss idx (insY xss idx)) ≤ 5000 := tot_dpL n xss idx _ fun hp h2 => by
  have D := of_desB hp
  obtain ⟨k0, k1⟩ := of_decide_eq_true h2
  unfold insY
  exact blk_len D.2.1 (D.2.2.2 idx.toNat (by omega)).1.2
theorem totResidualDesign (n : Int) (xss : List (List Int)) (idx : Int) : tot (dpL n xss idx (outY n xss idx)) ≤ 5000 := tot_dpL n xss idx _ fun hp h2 => by
  have D := of_desB hp
  unfold outY
  have := fls_len n.toNat (fun i => !decide ((i : Int) ∈ xss.getD idx.toNat []))
  have := D.2.1
  omega
end
end
end Go.Proofs.YtdhlnagkhkcoiaaGreatDoor
