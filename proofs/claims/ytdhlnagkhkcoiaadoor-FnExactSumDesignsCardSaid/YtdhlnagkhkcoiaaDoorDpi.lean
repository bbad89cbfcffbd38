/- What other blocks have in a set of points (partOf): the program's. -/
import Derived.Test.YtdhlnagkhkcoiaaDoorDsm
import Derived.StillTailTactics
import Derived.Test.YtdhlnagkhkcoiaaDoorCom
namespace Go.Proofs.YtdhlnagkhkcoiaaDoor
open Go.RowKit Go.Shelf
set_option linter.unusedVariables false
set_option linter.unusedSimpArgs false

/-! ### has, renumbered -/
theorem pow_lt32 {z : Nat} (hz : z < 32) : 2 ^ z < 4294967296 := by
  have : 2 ^ z < 2 ^ 32 := Nat.pow_lt_pow_right (by omega) hz
  omega
theorem and_pow_ne' (s z : Nat) : (((s &&& 2 ^ z : Nat) : Int) != 0) = s.testBit z := by
  cases e : s.testBit z with
  | true =>
    have : ¬ s &&& 2 ^ z = 0 := fun h => by
      have k : (s &&& 2 ^ z).testBit z = true := by rw [Nat.testBit_and, e, Nat.testBit_two_pow, decide_eq_true rfl]; rfl
      rw [h, Nat.zero_testBit] at k; cases k
    have h2 : ¬ (((s &&& 2 ^ z : Nat) : Int) = 0) := by omega
    simpa using h2
  | false =>
    have : s &&& 2 ^ z = 0 := Nat.eq_of_testBit_eq fun i => by
      rw [Nat.testBit_and, Nat.testBit_two_pow, Nat.zero_testBit]
      by_cases c : z = i
      · rw [← c, e]; rfl
      · rw [decide_eq_false c, Bool.and_false]
    rw [this]; rfl
/-- The bits of the places of some points in a set. -/
def Ren (s : Nat) (ys : List Int) (j r : Nat) : Prop := r < 4294967296 ∧ ∀ i, r.testBit i = (decide (i < j) && s.testBit (ys.getD i 0).toNat)
def Us (w : World) (B : Nat) (v : Value) (L : List Nat) : Prop := w.ownsRow B 81 1 v L.length (L.map (fun x => Value.int .u32 (x : Nat)))
theorem wpList_pushU {ops : Array Oper} {rest : List Oper} {o : Oper} {a : Act} {Q : Exit → Act → World → Prop} (w : World) (hgd : o.guard = none) (s x : Operand)
    (ho : o.op = .call { callee := .builtin .append, args := #[s, x], argTypes := #[51, 51] })
    (B : Nat) (v : Value) (L : List Nat) (hs : a.eval s = v) (h : Us w B v L) (y : Nat) (T : TypeId) (hx : a.eval x = .slice (some ⟨w.heap.size, 0, none⟩) 1 1)
    (hl : L.length < 1000000000000) (hB : B ≤ w.heap.size)
    (hK : ∀ v' w', Us w' B v' (L ++ [y]) → Below B w w' → wpList Tryd.prog ops Q rest (a.put o.dst v') w') :
    wpList Tryd.prog ops Q (o :: rest) a (w.alloc (.cells #[.int .u32 (y : Nat)] T)) := by
  obtain ⟨i0, hi, hz0, hz1, hz2⟩ := info_parts Tryd.infoSet
  refine wpList_append_own _ hgd s x 51 ho B 81 i0 (.int .u32 0) 1 4 Tryd.underlying51 hi hz0 hz1 hz2 rfl (by decide) v L.length _ hs (World.ownsRow.alloc h _) ⟨w.heap.size, 0, none⟩ 1 1 [.int .u32 (y : Nat)] hx rfl ?c1 ?c2 ?c3 ?c4 ?c5 ?_
  case c1 =>
    intro j u hj
    match j, hj with
    | 0, hj => simp at hj; subst hj; simp [Addr.add]
  case c2 => intro u hu; simp at hu; subst hu; rfl
  case c3 => unfold maxLen; omega
  case c4 => omega
  case c5 => simp; omega
  intro v' w' h' hg _
  refine hK v' w' ?_ ?_
  · unfold Us
    rw [List.length_append, List.map_append]
    exact h'
  · exact ((Below.refl _ _).alloc hB _).grown hg (by simp; omega) (fun k hk => (World.ownsRow.lt h k hk).1)
theorem Us.uc {w : World} {B : Nat} {v : Value} {L : List Nat} (h : Us w B v L) : (v = .slice none 0 0 ∧ L = []) ∨ ∃ g cp, v = .slice (some ⟨g, 0, none⟩) L.length cp ∧ B ≤ g ∧ Uc w g L.length (fun i => L.getD i 0) := by
  obtain ⟨h1, ⟨rfl, h2⟩ | ⟨g, cap, cur, rfl, h3, h4, h5, h6, h7, h8⟩⟩ := h
  · exact .inl ⟨rfl, List.length_eq_zero_iff.1 h2⟩
  · refine .inr ⟨g, cap, rfl, h3, cur, _, h4, fun i hi => ?_⟩
    have e := congrArg (fun l => l[i]?) h8
    simp only [List.getElem?_take, Nat.mul_one] at e
    rw [if_pos hi] at e
    rw [← Array.getElem?_toList, e, List.getElem?_map, List.getElem?_eq_getElem hi, Option.map_some]
    show some (Value.int .u32 ((L[i] : Nat) : Int)) = some (Value.int .u32 ((L.getD i 0 : Nat) : Int))
    rw [List.getD_eq_getElem?_getD, List.getElem?_eq_getElem hi]; rfl
theorem ptsL_list (L : List Nat) : ptsL L.length (fun i => L.getD i 0) = L.map ptsN := by
  apply List.ext_getElem (by simp [ptsL])
  intro i h1 h2
  simp [ptsL] at h1
  simp [ptsL, h1]

theorem endsD {fn : Func} {i j : Nat} (hfn : fn.results = #[.cell i 27, .tmp j]) (W : World) (q : Nat) (z0 z1 : Value) (hk : W.heap[q]? = some (.cells #[z0, z1] 27 (0, 0))) (a b : Value) (o : Value) (Φ : Ending → World → Prop)
    (hΦ : Φ (.returned (.tuple #[.agg #[a, b], o])) ((W.setCell ⟨q, 0, none⟩ a).setCell ⟨q, 1, none⟩ b)) (tmps : Array Value) (t2 : tmps.getD i undef = .pointer (some ⟨q, 0, none⟩)) (t3 : tmps.getD j undef = o) :
    bodyPost Tryd.prog fn Φ Exit.ret { tmps := tmps, defers := [] } ((W.setCell ⟨q, 0, none⟩ a).setCell ⟨q, 1, none⟩ b) := by
  have R9 := set2_row W q _ _ a b _ hk
  obtain ⟨w9, hw9⟩ : ∃ w9, ((W.setCell ⟨q, 0, none⟩ a).setCell ⟨q, 1, none⟩ b) = w9 := ⟨_, rfl⟩
  rw [hw9] at R9 hΦ ⊢
  have hld := run_loadVar_row (P := Tryd.prog) _ _ 27 27 #[a, b] (0, 0) _ R9 Tryd.underlying27 rfl Tryd.infoDes
  have t2' : tmps[i]?.getD undef = .pointer (some ⟨q, 0, none⟩) := by simpa using t2
  have t3' : tmps[j]?.getD undef = o := by simpa using t3
  refine bodyPost_ret (v := .tuple #[.agg #[a, b], o]) ?_ rfl hΦ
  rw [results_cell_tmp hfn]
  simp [asAddr, Result.andThen, t2', t3', hld]
theorem cells2 (W : World) (g : Nat) (z0 z1 : Value) (T : TypeId) (h : W.heap[g]? = some (.cells #[z0, z1] T (0, 0))) :
    W.cell? ⟨g, 0, none⟩ = some z0 ∧ W.cell? ⟨g, 1, none⟩ = some z1 ∧ W.frozen? ⟨g, 0, none⟩ = false ∧ W.frozen? ⟨g, 1, none⟩ = false :=
  ⟨by rw [cell_of_row W g 0 _ _ _ h]; rfl, by rw [cell_of_row W g 1 _ _ _ h]; rfl, frozen_of_row W g 0 _ _ h, frozen_of_row W g 1 _ _ h⟩

/-! partOf: the program's. -/
section
open Go.RowKit Go.Shelf Go.Lib Go.Sort
set_option linter.unusedVariables false
set_option linter.unusedSimpArgs false

/-! ### designOf of no block -/
theorem sortL_nil : sortL [] = [] := List.eq_nil_of_length_eq_zero (by rw [(sortL_perm []).length_eq]; rfl)
theorem dx_nil (n : Int) : dxN n [] = n ∧ dxL [] = [] ∧ dxC [] = 0 := by
  unfold dxN dxL dxC
  exact ⟨rfl, sortL_nil, rfl⟩
theorem iIndexNil (w : World) :
    Calls Tryd.prog 86 #[.slice none 0 0, .int .u32 0] w fun e w' => e = .returned (.int .i64 (-1)) ∧ w' = w := by
  go_enter Tryd.func86, Tryd.ntmps86
  go_wp2
  refine wp_loop_rounds 1 ?_
  rw [rounds_succ]
  go_wp2
  go_ret
  exact ⟨rfl, rfl⟩
theorem iContainsNil (w : World) :
    Calls Tryd.prog 70 #[.slice none 0 0, .int .u32 0] w fun e w' => e = .returned (.bool false) ∧ w' = w := by
  have H := Lib.hid (iIndexNil w)
  go_enter Tryd.func70, Tryd.ntmps70
  go_wp2_with fail
  refine H.out.mono ?_
  rintro e w2 ⟨rfl, rfl⟩
  go_wp2
  go_ret
  exact ⟨rfl, rfl⟩
theorem isortNil (b : Nat) (w : World) :
    Calls Tryd.prog 71 #[.iface 51 (.slice none 0 0), .func (.func 84) #[] #[.pointer (some ⟨b, 0, none⟩)]] w fun e w' => e = .returned (.tuple #[]) ∧ Below w.heap.size w w' := by
  have key := Any.sort_Slice_tiny (P := Tryd.prog) Tryd.laysGg6 51 81 psT psE (by kernel_rfl) (by kernel_rfl) (by kernel_rfl) (by kernel_rfl) 10 (fun _ => by kernel_rfl) none 0 0 (by omega) 96 (by rw [psK, if_pos rfl]; kernel_rfl) (.func 84) #[] #[.pointer (some ⟨b, 0, none⟩)] w
  refine key.mono ?_
  rintro e w' ⟨rfl, os, rfl⟩
  refine ⟨rfl, rfl, rfl, rfl, by rw [size_grow]; exact Nat.le_add_right _ _, fun k hk => heap_grow_old _ _ hk⟩

set_option maxRecDepth 100000 in
set_option maxHeartbeats 2000000 in
theorem idesNil (n : Int) (w : World) :
    Calls Tryd.prog 49 #[.int .i64 n, .slice none 0 0] w fun e w' => ∃ z, e = .returned (.tuple #[.agg #[.int .i64 n, z], .int .i64 0]) ∧ RowsL w' w.heap.size w'.heap.size z [] ∧ Below w.heap.size w w' := by
  obtain ⟨B, hB⟩ : ∃ B, w.heap.size = B := ⟨_, rfl⟩
  obtain ⟨w0, hw0⟩ : ∃ w0, w.alloc (.cells #[.int .i64 0, .slice none 0 0] 27) = w0 := ⟨_, rfl⟩
  have b0 : Below B w w0 := by rw [← hw0]; exact (Below.refl _ _).alloc (Nat.le_of_eq hB.symm) _
  have z0 : w0.heap.size = B + 1 := by rw [← hw0, World.size_alloc, hB]
  have R0 : w0.heap[B]? = some (.cells #[.int .i64 0, .slice none 0 0] 27 (0, 0)) := by rw [← hw0, ← hB]; exact heap_alloc_new _ _
  have HC := Lib.hid (iContainsNil w0)
  have HO := Lib.hid (iorder (.slice none 0 0) w0 _ _ _ rfl)
  obtain ⟨w1, hw1⟩ : ∃ w1, w0.alloc (.cells #[.slice none 0 0] 51) = w1 := ⟨_, rfl⟩
  have b1 : Below (B + 1) w0 w1 := by rw [← hw1]; exact (Below.refl _ _).alloc (Nat.le_of_eq z0.symm) _
  have z1 : w1.heap.size = B + 2 := by rw [← hw1, World.size_alloc, z0]
  have HSO := Lib.hid (isortNil (B + 1) w1)
  rw [z0, hw1] at HO
  have B1 : Hid (Below B w w1) := b0.trans (b1.mono (by omega))
  have Z1 := Lib.hid z1
  have HB := Lib.hid hB
  have R1 : Hid (w1.heap[B]? = some (.cells #[.int .i64 0, .slice none 0 0] 27 (0, 0))) := (b1.block B (by omega)).trans R0
  clear b0 z0 R0 b1 z1
  go_enter Tryd.func49, Tryd.ntmps49
  go_wp2_with fail
  try rw [hw0]
  refine HC.out.mono ?_
  rintro e w2 ⟨rfl, rfl⟩
  clear hw0
  go_wp2_with fail
  refine HO.out.mono ?_
  rintro e w3 ⟨rfl, rfl⟩
  clear hw1
  go_wp2_with fail
  refine HSO.out.mono ?_
  rintro e w4 ⟨rfl, b4⟩
  have R4 : w4.heap[B]? = some (.cells #[.int .i64 0, .slice none 0 0] 27 (0, 0)) := (b4.block B (by have := Z1.out; omega)).trans R1.out
  have B4 : Below B w w4 := B1.out.trans (b4.mono (by have := Z1.out; omega))
  have z4 : B + 2 ≤ w4.heap.size := by have := b4.size; have := Z1.out; omega
  obtain ⟨D, hD⟩ : ∃ D, w4.heap.size = D := ⟨_, rfl⟩
  have hmk := run_make_row' (P := Tryd.prog) 22 60 (.slice none 0 0) 24 Tryd.underlying22 Tryd.infoRow rfl .i64 .i64 0 (by omega) (by omega) w4
  have FR := RowsL.fresh w4 0 (by unfold maxLen; omega)
  rw [hD] at hmk FR z4
  obtain ⟨w5, hw5⟩ : ∃ w5, w4.alloc (.cells (madeCells #[.slice none 0 0] 0) 60) = w5 := ⟨_, rfl⟩
  rw [hw5] at hmk FR
  rw [show ((0 : Nat) : Int) = 0 from rfl] at hmk
  have b5 : Below D w4 w5 := by rw [← hw5]; exact (Below.refl _ _).alloc (Nat.le_of_eq hD.symm) _
  have z5 : w5.heap.size = D + 1 := by rw [← hw5, World.size_alloc, hD]
  have R5 := (b5.block B (by omega)).trans R4
  have B5 : Hid (Below B w w5) := B4.trans (b5.mono (by omega))
  rw [← z5] at FR
  have F5 := Lib.hid FR
  obtain ⟨d0, d1, f0, f1⟩ := cells2 w5 B _ _ _ R5
  have RR5 := Lib.hid R5
  have BD : Hid (B + 2 ≤ D) := z4
  clear b4 R4 B4 b5 R5 FR HSO HO HC
  go_wp2
  try rw [hw5]
  refine wp_loop_rounds 1 ?_
  rw [rounds_succ]
  go_wp2
  refine endsD rfl w5 B _ _ RR5.out _ _ _ _ ⟨_, rfl, ?_, ?_⟩ _ rfl rfl
  · exact (RowsL.off2 F5.out (show B < D by have := BD.out; omega) _ _).mono (by have := BD.out; have := HB.out; omega) (by simp [World.setCell]) (Nat.le_refl _)
  · rw [HB.out]
    exact (B5.out.setCell (p := ⟨B, 0, none⟩) (Nat.le_refl _) _).setCell (p := ⟨B, 1, none⟩) (Nat.le_refl _) _
/-- designOf of a slice of sets that the call has grown. -/
theorem idesU (n : Int) (w : World) (Q : Nat) (v : Value) (L : List Nat) (hV : Us w Q v L) (hX : ∀ x ∈ L, x < 4294967296) (hl : L.length ≤ 1048576) (hQ : 0 < Q) (hQs : Q ≤ w.heap.size) (ht : Tab w) :
    Calls Tryd.prog 49 #[.int .i64 n, v] w fun e w' => ∃ z, e = .returned (.tuple #[.agg #[.int .i64 (dxN n (L.map ptsN)), z], .int .i64 (dxC (L.map ptsN))]) ∧ RowsL w' w.heap.size w'.heap.size z (dxL (L.map ptsN)) ∧ Below Q w w' := by
  rcases hV.uc with ⟨rfl, rfl⟩ | ⟨gg, cp, rfl, hgg, hUc⟩
  · obtain ⟨e1, e2, e3⟩ := dx_nil n
    rw [show ([] : List Nat).map ptsN = [] from rfl, e1, e2, e3]
    exact (idesNil n w).mono fun e w' ⟨z, h1, h2, h3⟩ => ⟨z, h1, h2, h3.mono hQs⟩
  · have hS2 : ∀ i, i < L.length → L.getD i 0 < 4294967296 := fun i hi => hX _ (by rw [List.getD_eq_getElem?_getD, List.getElem?_eq_getElem hi]; exact List.getElem_mem _)
    have DX := dx_des n (m := L.length) (S := fun i => L.getD i 0) hS2
    rw [ptsL_list] at DX
    have H := idesC n L.length gg cp (fun i => L.getD i 0) hl w hUc hS2 (by omega) ht
    rw [DX.1, DX.2.1, DX.2.2] at H
    exact H.mono fun e w' ⟨z, h1, h2, h3⟩ => ⟨z, h1, h2, ⟨h3.os, h3.tape, h3.output, h3.size, fun i hi => h3.block i (by omega) (by omega)⟩⟩
end

/-! partOf: its walk. -/
section
open Go.RowKit Go.Shelf
set_option linter.unusedVariables false
set_option linter.unusedSimpArgs false

/-- The lists but the one with an index. -/
def skL (idx : Int) (F : Nat → List Int) : Nat → List (List Int)
  | 0 => []
  | k + 1 => skL idx F k ++ if (k : Int) = idx then [] else [F k]
theorem skL_len (idx : Int) (F : Nat → List Int) : ∀ k, (skL idx F k).length ≤ k
  | 0 => Nat.le_refl _
  | k + 1 => by
    have := skL_len idx F k
    rw [skL, List.length_append]
    split <;> simp <;> omega
theorem skL_mem (idx : Int) (F : Nat → List Int) : ∀ k l, l ∈ skL idx F k → ∃ i, i < k ∧ l = F i
  | 0, l, h => by cases h
  | k + 1, l, h => by
    rw [skL, List.mem_append] at h
    rcases h with h | h
    · obtain ⟨i, hi, e⟩ := skL_mem idx F k l h
      exact ⟨i, by omega, e⟩
    · split at h
      · cases h
      · rw [List.mem_singleton] at h
        exact ⟨k, by omega, h⟩
theorem skL_in (idx : Int) (F : Nat → List Int) {i : Nat} (hne : (i : Int) ≠ idx) : ∀ k, i < k → F i ∈ skL idx F k
  | 0, h => by omega
  | k + 1, h => by
    rw [skL, List.mem_append]
    by_cases e : i = k
    · subst e; rw [if_neg hne]; exact .inr (List.mem_singleton.2 rfl)
    · exact .inl (skL_in idx F hne k (by omega))
theorem skL_congr (idx : Int) {F G : Nat → List Int} : ∀ k, (∀ i, i < k → F i = G i) → skL idx F k = skL idx G k
  | 0, _ => rfl
  | k + 1, h => by rw [skL, skL, skL_congr idx k (fun i hi => h i (by omega)), h k (by omega)]
/-- The places of some points in a block. -/
def plF (xss : List (List Int)) (ys : List Int) (k : Nat) : List Int := fls ys.length (fun i => decide (ys.getD i 0 ∈ xss.getD k []))

theorem ren_pts {s : Nat} {ys xs : List Int} {r : Nat} (hl : ys.length ≤ 32) (hy : ∀ i, i < ys.length → 0 ≤ ys.getD i 0 ∧ ys.getD i 0 ≤ 31) (hs : ∀ z : Nat, s.testBit z = decide ((z : Int) ∈ xs)) (h : Ren s ys ys.length r) :
    ptsN r = fls ys.length (fun i => decide (ys.getD i 0 ∈ xs)) := pts_fls hl fun i => by
  rw [h.2 i]
  by_cases c : i < ys.length
  · rw [hs, Int.toNat_of_nonneg (hy i c).1]
  · rw [decide_eq_false c]; rfl

end

/-! Derived and residual designs: the values; blockOf. -/
section
open Go.RowKit Go.Shelf
set_option linter.unusedVariables false
set_option linter.unusedSimpArgs false

def inIdx (idx : Int) (m : Nat) : Bool := decide (0 ≤ idx ∧ idx < m)
/-- The design of what the other blocks have in some points: number of points, blocks, code. -/
noncomputable def dpN (n : Int) (xss : List (List Int)) (idx : Int) (ys : List Int) : Int := if desB n xss = true then (if inIdx idx xss.length = true then (if ys.length = 0 then 0 else dxN ys.length (skL idx (plF xss ys) xss.length)) else 0) else 0
noncomputable def dpL (n : Int) (xss : List (List Int)) (idx : Int) (ys : List Int) : List (List Int) := if desB n xss = true then (if inIdx idx xss.length = true then (if ys.length = 0 then [] else dxL (skL idx (plF xss ys) xss.length)) else []) else []
noncomputable def dpC (n : Int) (xss : List (List Int)) (idx : Int) (ys : List Int) : Int := if desB n xss = true then (if inIdx idx xss.length = true then (if ys.length = 0 then 6 else dxC (skL idx (plF xss ys) xss.length)) else 2) else 1
theorem dp_no {n : Int} {xss : List (List Int)} (idx : Int) (ys : List Int) (h : desB n xss = false) : dpN n xss idx ys = 0 ∧ dpL n xss idx ys = [] ∧ dpC n xss idx ys = 1 := by
  unfold dpN dpL dpC; rw [h]; exact ⟨rfl, rfl, rfl⟩
theorem dp_range {n : Int} {xss : List (List Int)} {idx : Int} (ys : List Int) (h : desB n xss = true) (h2 : inIdx idx xss.length = false) : dpN n xss idx ys = 0 ∧ dpL n xss idx ys = [] ∧ dpC n xss idx ys = 2 := by
  unfold dpN dpL dpC; rw [h, h2]; exact ⟨rfl, rfl, rfl⟩
theorem dp_empty {n : Int} {xss : List (List Int)} {idx : Int} {ys : List Int} (h : desB n xss = true) (h2 : inIdx idx xss.length = true) (h3 : ys.length = 0) : dpN n xss idx ys = 0 ∧ dpL n xss idx ys = [] ∧ dpC n xss idx ys = 6 := by
  unfold dpN dpL dpC; rw [h, h2, if_pos rfl, if_pos rfl, if_pos rfl, if_pos rfl, if_pos rfl, if_pos rfl, if_pos h3, if_pos h3, if_pos h3]; exact ⟨rfl, rfl, rfl⟩
theorem dp_ok {n : Int} {xss : List (List Int)} {idx : Int} {ys : List Int} (h : desB n xss = true) (h2 : inIdx idx xss.length = true) (h3 : ¬ ys.length = 0) : dpN n xss idx ys = dxN ys.length (skL idx (plF xss ys) xss.length) ∧ dpL n xss idx ys = dxL (skL idx (plF xss ys) xss.length) ∧ dpC n xss idx ys = dxC (skL idx (plF xss ys) xss.length) := by
  unfold dpN dpL dpC; rw [h, h2, if_pos rfl, if_pos rfl, if_pos rfl, if_pos rfl, if_pos rfl, if_pos rfl, if_neg h3, if_neg h3, if_neg h3]; exact ⟨rfl, rfl, rfl⟩
/-- The code of a design and an index. -/
noncomputable def askC (n : Int) (xss : List (List Int)) (idx : Int) : Int := if desB n xss = true then (if inIdx idx xss.length = true then 0 else 2) else 1
theorem ask_no {n : Int} {xss : List (List Int)} (idx : Int) (h : desB n xss = false) : askC n xss idx = 1 := by unfold askC; rw [h]; rfl
theorem ask_range {n : Int} {xss : List (List Int)} {idx : Int} (h : desB n xss = true) (h2 : inIdx idx xss.length = false) : askC n xss idx = 2 := by unfold askC; rw [h, h2]; rfl
theorem ask_ok {n : Int} {xss : List (List Int)} {idx : Int} (h : desB n xss = true) (h2 : inIdx idx xss.length = true) : askC n xss idx = 0 := by unfold askC; rw [h, h2]; rfl

theorem results_ctt {fn : Func} {p u t : Tmp} {ty : TypeId} (h : fn.results = #[.cell p ty, .tmp u, .tmp t]) (tmps : Array Value) (P : Program) (w : World) :
    (results fn tmps).run P w =
      ((asAddr (tmps.getD p undef)).run P w).andThen fun a w₁ => ((loadVar ty a).run P w₁).andThen fun v w₂ => .ok (.tuple #[v, tmps.getD u undef, tmps.getD t undef]) w₂ := by
  simp only [results, h]
  simp [Sem.run_bind, Result.andThen]
theorem endsI {fn : Func} {i j l : Nat} (hfn : fn.results = #[.cell i 53, .tmp j, .tmp l]) (W : World) (q : Nat) (z0 z1 : Value) (hk : W.heap[q]? = some (.cells #[z0, z1] 53 (0, 0))) (a b : Value) (o u : Value) (Φ : Ending → World → Prop)
    (hΦ : Φ (.returned (.tuple #[.agg #[a, b], o, u])) ((W.setCell ⟨q, 0, none⟩ a).setCell ⟨q, 1, none⟩ b)) (tmps : Array Value) (t2 : tmps.getD i undef = .pointer (some ⟨q, 0, none⟩)) (t3 : tmps.getD j undef = o) (t4 : tmps.getD l undef = u) :
    bodyPost Tryd.prog fn Φ Exit.ret { tmps := tmps, defers := [] } ((W.setCell ⟨q, 0, none⟩ a).setCell ⟨q, 1, none⟩ b) := by
  have R9 := set2_row W q _ _ a b _ hk
  obtain ⟨w9, hw9⟩ : ∃ w9, ((W.setCell ⟨q, 0, none⟩ a).setCell ⟨q, 1, none⟩ b) = w9 := ⟨_, rfl⟩
  rw [hw9] at R9 hΦ ⊢
  have hld := run_loadVar_row (P := Tryd.prog) _ _ 53 53 #[a, b] (0, 0) _ R9 Tryd.underlying53 rfl Tryd.infoInc
  have t2' : tmps[i]?.getD undef = .pointer (some ⟨q, 0, none⟩) := by simpa using t2
  have t3' : tmps[j]?.getD undef = o := by simpa using t3
  have t4' : tmps[l]?.getD undef = u := by simpa using t4
  refine bodyPost_ret (v := .tuple #[.agg #[a, b], o, u]) ?_ rfl hΦ
  rw [results_ctt hfn]
  simp [asAddr, Result.andThen, t2', t3', t4', hld]

/-- What blockOf leaves. -/
def BoOut (n : Int) (xss : List (List Int)) (idx : Int) (B : Nat) (w' : World) (z : Value) (s : Nat) : Prop :=
  (¬ (desB n xss = true ∧ inIdx idx xss.length = true) → z = .agg #[.int .i64 0, .slice none 0 0] ∧ s = 0) ∧
  (desB n xss = true ∧ inIdx idx xss.length = true → ∃ g S, z = .agg #[.int .i64 n, .slice (some ⟨g, 0, none⟩) xss.length xss.length] ∧ B ≤ g ∧ Ub w' g xss.length S ∧ SetsF xss xss.length S ∧ s = S idx.toNat)
end

/-! Derived and residual designs: the program's. -/
section
open Go.RowKit Go.Shelf
set_option linter.unusedVariables false
set_option linter.unusedSimpArgs false

theorem dp_ask {n : Int} {xss : List (List Int)} {idx : Int} (ys : List Int) (h : ¬ (desB n xss = true ∧ inIdx idx xss.length = true)) : dpN n xss idx ys = 0 ∧ dpL n xss idx ys = [] ∧ dpC n xss idx ys = askC n xss idx ∧ askC n xss idx ≠ 0 := by
  cases hp : desB n xss with
  | false =>
    obtain ⟨a, b, c⟩ := dp_no idx ys hp
    have d := ask_no idx hp
    exact ⟨a, b, by rw [c, d], by rw [d]; decide⟩
  | true =>
    cases h2 : inIdx idx xss.length with
    | false =>
      obtain ⟨a, b, c⟩ := dp_range ys hp h2
      have d := ask_range hp h2
      exact ⟨a, b, by rw [c, d], by rw [d]; decide⟩
    | true => exact absurd ⟨hp, h2⟩ h
/-- The points of a block, and those outside of it. -/
def insY (xss : List (List Int)) (idx : Int) : List Int := xss.getD idx.toNat []
def outY (n : Int) (xss : List (List Int)) (idx : Int) : List Int := fls n.toNat (fun i => !decide ((i : Int) ∈ xss.getD idx.toNat []))
theorem outY_pts {N s z : Nat} {xs : List Int} (hN : N ≤ 32) (hs : ∀ k : Nat, s.testBit k = decide ((k : Int) ∈ xs)) (hz : OpOut (fun a b => a && !b) (2 ^ N - 1) s z) : fls 32 (fun k => z.testBit k) = fls N (fun i => !decide ((i : Int) ∈ xs)) :=
  pts_fls (x := z) hN fun i => by rw [hz.2 i, Nat.testBit_two_pow_sub_one, hs]

end

/-! Derived and residual designs: the model's pieces. -/
section
open Go.RowKit Go.Shelf
set_option linter.unusedVariables false
set_option linter.unusedSimpArgs false

noncomputable def ppN (xss : List (List Int)) (idx : Int) (ys : List Int) : Int := if ys.length = 0 then 0 else dxN ys.length (skL idx (plF xss ys) xss.length)
noncomputable def ppL (xss : List (List Int)) (idx : Int) (ys : List Int) : List (List Int) := if ys.length = 0 then [] else dxL (skL idx (plF xss ys) xss.length)
noncomputable def ppC (xss : List (List Int)) (idx : Int) (ys : List Int) : Int := if ys.length = 0 then 6 else dxC (skL idx (plF xss ys) xss.length)
theorem any_mem {Ls : List (List Int)} (h : [] ∈ Ls) : anyE Ls = true := by
  unfold anyE; rw [List.any_eq_true]; exact ⟨[], h, rfl⟩
theorem any_none {Ls : List (List Int)} (h : ∀ l ∈ Ls, l ≠ []) : anyE Ls = false := by
  unfold anyE; rw [List.any_eq_false]
  intro l hl he
  exact h l hl (List.isEmpty_iff.1 he)
theorem getD_inL {α : Type} {L : List α} {i : Nat} {d : α} (h : i < L.length) : L.getD i d ∈ L := by
  rw [List.getD_eq_getElem?_getD, List.getElem?_eq_getElem h]; exact List.getElem_mem _

section
open Go.RowKit Go.Shelf
set_option linter.unusedVariables false
set_option linter.unusedSimpArgs false

theorem rises_ge {n : Int} {xs : List Int} (h : Rises 0 (n - 1) xs) : ∀ i, i < xs.length → (i : Int) ≤ xs.getD i 0
  | 0, hi => by have := (h 0 hi).1; omega
  | i + 1, hi => by
    have a := (h (i + 1) hi).2.2 (by omega)
    have b := rises_ge h i (by omega)
    rw [show i + 1 - 1 = i by omega] at a
    omega
theorem blk_len {n : Int} {xs : List Int} (hn : n ≤ 32) (h : Rises 0 (n - 1) xs) : xs.length ≤ 32 := by
  by_cases c : xs.length = 0
  · omega
  · have a := rises_ge h (xs.length - 1) (by omega)
    have b := (h (xs.length - 1) (by omega)).2.1
    omega
theorem dp_pp {n : Int} {xss : List (List Int)} {idx : Int} (ys : List Int) (h : desB n xss = true ∧ inIdx idx xss.length = true) : dpN n xss idx ys = ppN xss idx ys ∧ dpL n xss idx ys = ppL xss idx ys ∧ dpC n xss idx ys = ppC xss idx ys := by
  unfold dpN dpL dpC ppN ppL ppC; rw [h.1, h.2, if_pos rfl, if_pos rfl, if_pos rfl, if_pos rfl, if_pos rfl, if_pos rfl]; exact ⟨rfl, rfl, rfl⟩

theorem skL_tot (idx : Int) (F : Nat → List Int) (h : ∀ i, (F i).length ≤ 32) : ∀ k, tot (skL idx F k) ≤ k * 32
  | 0 => Nat.le_refl _
  | k + 1 => by
    have := skL_tot idx F h k
    have hk := h k
    rw [skL, tot_append]
    split
    · rw [tot_nil]; omega
    · rw [tot_cons, tot_nil]; omega
theorem tot_dpL (n : Int) (xss : List (List Int)) (idx : Int) (ys : List Int) (hy : desB n xss = true → inIdx idx xss.length = true → ys.length ≤ 32) : tot (dpL n xss idx ys) ≤ 5000 := by
  cases hp : desB n xss with
  | false => rw [(dp_no idx ys hp).2.1]; exact Nat.zero_le _
  | true =>
    cases h2 : inIdx idx xss.length with
    | false => rw [(dp_range ys hp h2).2.1]; exact Nat.zero_le _
    | true =>
      have y32 := hy hp h2
      have m128 := (of_desB hp).2.2.1
      by_cases c : ys.length = 0
      · rw [(dp_empty hp h2 c).2.1]; exact Nat.zero_le _
      · rw [(dp_ok hp h2 c).2.1]
        have a := (dxL_tot (skL idx (plF xss ys) xss.length)).1
        have b := skL_tot idx (plF xss ys) (fun i => by unfold plF; exact Nat.le_trans (fls_len _ _) y32) xss.length
        omega
theorem totDerivedDesign (n : Int) (xss : List (List Int)) (idx : Int) : tot (dpL n xss idx (insY xss idx)) ≤ 5000 := tot_dpL n xss idx _ fun hp h2 => by
  have D := of_desB hp
  obtain ⟨k0, k1⟩ := of_decide_eq_true h2
  unfold insY
  exact blk_len D.2.1 (D.2.2.2 idx.toNat (by omega)).1.2
theorem totResidualDesign (n : Int) (xss : List (List Int)) (idx : Int) : tot (dpL n xss idx (outY n xss idx)) ≤ 5000 := tot_dpL n xss idx _ fun hp h2 => by
  have D := of_desB hp
  unfold outY
  have := fls_len n.toNat (fun i => !decide ((i : Int) ∈ xss.getD idx.toNat []))
  have := D.2.1
  omega
end
end
end Go.Proofs.YtdhlnagkhkcoiaaDoor
