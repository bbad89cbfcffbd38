/- Sets of indices of blocks: two words a point. -/
import Derived.Test.YtdhlnagkhkcoiaaGreatDoorU3
import Derived.Test.YtdhlnagkhkcoiaaGreatDoorOcm
import Derived.StillTailTactics
namespace Go.Proofs.YtdhlnagkhkcoiaaGreatDoor
open Go.RowKit Go.Shelf
set_option linter.unusedVariables false

def war (n : Nat) (c : Nat → Nat) : Array Value := ((List.range n).map (fun i => Value.int .u64 (c i : Nat))).toArray
theorem war_get (n : Nat) (c : Nat → Nat) (i : Nat) (h : i < n) : (war n c)[i]? = some (.int .u64 (c i : Nat)) := by simp [war, h]
theorem war_size (n : Nat) (c : Nat → Nat) : (war n c).size = n := by simp [war]
theorem war_set (n : Nat) (c : Nat → Nat) (i v : Nat) : (war n c).setIfInBounds i (.int .u64 (v : Nat)) = war n (updN c i v) := by
  apply Array.ext_getElem?
  intro j
  rw [Array.getElem?_setIfInBounds]
  by_cases hj : j < n
  · rw [war_get n (updN c i v) j hj]
    by_cases e : i = j
    · subst e
      rw [if_pos rfl, if_pos (by rw [war_size]; exact hj)]; unfold updN; rw [if_pos rfl]
    · rw [if_neg e, war_get n c j hj]
      unfold updN
      rw [if_neg (fun h => e h.symm)]
  · have h1 := war_size n c
    have h2 := war_size n (updN c i v)
    rw [Array.getElem?_eq_none (by omega : (war n (updN c i v)).size ≤ j)]
    split
    · rw [if_neg (by omega)]
    · exact Array.getElem?_eq_none (by omega)
/-- A block of n words, two a point. -/
def Wb (w : World) (g n : Nat) (c : Nat → Nat) : Prop := w.heap[g]? = some (.cells (war n c) 140 (0, 0))
theorem Wb.cell {w : World} {g n : Nat} {c : Nat → Nat} (h : Wb w g n c) (i : Nat) (hi : i < n) : w.cell? ⟨g, i, none⟩ = some (.int .u64 (c i : Nat)) := by
  rw [cell_of_row w g i _ _ _ h, war_get n c i hi]
theorem Wb.frozen {w : World} {g n : Nat} {c : Nat → Nat} (h : Wb w g n c) (i : Nat) : w.frozen? ⟨g, i, none⟩ = false := frozen_of_row w g i _ _ h
theorem Wb.set {w : World} {g n : Nat} {c : Nat → Nat} (h : Wb w g n c) (i v : Nat) : Wb (w.setCell ⟨g, i, none⟩ (.int .u64 (v : Nat))) g n (updN c i v) := by
  unfold Wb
  rw [heap_setCell_same w g i _ _ _ h, war_set]
theorem Wb.lt {w : World} {g n : Nat} {c : Nat → Nat} (h : Wb w g n c) : g < w.heap.size := by
  unfold Wb at h; exact (Array.getElem?_eq_some_iff.1 h).1
theorem Wb.below {w w' : World} {g n B : Nat} {c : Nat → Nat} (h : Wb w g n c) (hb : Below B w w') (hB : g < B) : Wb w' g n c := (hb.block g hB).trans h
theorem made_war (n : Nat) : madeCells #[.int .u64 0, .int .u64 0] n = war n (fun _ => 0) := by
  apply Array.ext_getElem?
  intro j
  by_cases hj : j < n
  · rw [war_get _ _ _ hj]
    have e : (madeCells #[Value.int .u64 0, .int .u64 0] n)[j]? = some ((#[Value.int .u64 0, .int .u64 0] : Array Value)[j % 2]!) := by
      simp [madeCells, hj]
    rw [e]
    rcases (by omega : j % 2 = 0 ∨ j % 2 = 1) with h | h <;> rw [h] <;> rfl
  · rw [Array.getElem?_eq_none (by rw [size_madeCells]; omega), Array.getElem?_eq_none (by rw [war_size]; omega)]
theorem Tryz.infoIdx : (Tryz.prog.info? 140).map (fun i => (i.zero, i.size, i.bytes)) = some (some (.agg #[.int .u64 0, .int .u64 0]), 2, 16) := by kernel_rfl
theorem make_idx (n : Nat) (hn : n ≤ 1000) (w : World) :
    (Instr.makeSlice 137 (.int .i64 (n : Int)) (.int .i64 (n : Int))).run Tryz.prog w = .ok (.slice (some ⟨w.heap.size, 0, none⟩) n n) (w.alloc (.cells (war (n * 2) (fun _ => 0)) 140)) := by
  obtain ⟨i, hi, hzz⟩ := Option.map_eq_some_iff.1 Tryz.infoIdx
  simp only [Prod.mk.injEq] at hzz
  obtain ⟨hz, hs, hb⟩ := hzz
  have hr := run_make (P := Tryz.prog) w 137 140 i _ Tryz.underlying137 hi hz .i64 .i64 n n (by omega) (by omega) (by rw [hb]; omega) (by omega)
  simp only [Int.toNat_natCast, hs, Value.cells, made_war] at hr
  exact hr

/-! ### One bit more -/
/-- The words say of each index below 128 and each point whether P. -/
def Rep (n : Nat) (P : Nat → Nat → Bool) (c : Nat → Nat) : Prop := ∀ x, x < n → ∀ i, i < 128 → c (2 * x + i / 64) < 18446744073709551616 ∧ (c (2 * x + i / 64)).testBit (i % 64) = P i x
theorem rep_zero (n : Nat) : Rep n (fun _ _ => false) (fun _ => 0) := fun x _ i _ => ⟨show (0 : Nat) < 18446744073709551616 by omega, by simp⟩
theorem rep_congr {n : Nat} {P Q : Nat → Nat → Bool} {c : Nat → Nat} (h : Rep n P c) (e : ∀ i x, i < 128 → x < n → P i x = Q i x) : Rep n Q c := fun x hx i hi => ⟨(h x hx i hi).1, by rw [(h x hx i hi).2]; exact e i x hi hx⟩
theorem rep_add {n : Nat} {P : Nat → Nat → Bool} {c : Nat → Nat} (h : Rep n P c) (x0 i0 : Nat) (hx : x0 < n) (hi : i0 < 128) :
    Rep n (fun i x => P i x || (decide (i = i0) && decide (x = x0))) (updN c (2 * x0 + i0 / 64) (c (2 * x0 + i0 / 64) ||| 2 ^ (i0 % 64))) := fun x hx' i hi' => by
  obtain ⟨h1, h2⟩ := h x hx' i hi'
  unfold updN
  by_cases e : 2 * x + i / 64 = 2 * x0 + i0 / 64
  · have ex : x = x0 := by omega
    have eq : i / 64 = i0 / 64 := by omega
    subst ex
    rw [if_pos e]
    have hp : 2 ^ (i0 % 64) < 2 ^ 64 := Nat.pow_lt_pow_right (by omega) (by omega)
    rw [← eq]
    refine ⟨Nat.or_lt_two_pow (n := 64) (by omega) hp, ?_⟩
    rw [Nat.testBit_or, h2, Nat.testBit_two_pow]
    congr 1
    by_cases f : i = i0
    · subst f; simp
    · have : ¬ i0 % 64 = i % 64 := by omega
      simp [f, this]
  · rw [if_neg e]
    refine ⟨h1, ?_⟩
    rw [h2]
    have : (decide (i = i0) && decide (x = x0)) = false := by
      by_cases a : i = i0
      · by_cases b : x = x0
        · subst a; subst b; exact absurd rfl e
        · simp [b]
      · simp [a]
    simp only [this, Bool.or_false]

set_option maxRecDepth 100000 in
set_option maxHeartbeats 1000000 in
theorem iadd (g m o i : Nat) (c : Nat → Nat) (w : World) (hW : Wb w g m c) (ho : o + 1 < m) (hi : i < 128) (hc : c (o + i / 64) < 18446744073709551616) :
    Calls Tryz.prog 120 #[.pointer (some ⟨g, o, none⟩), .int .i64 (i : Int)] w fun e w' => e = .returned (.tuple #[]) ∧ w' = w.drew.setCell ⟨g, o + i / 64, none⟩ (.int .u64 ((c (o + i / 64) ||| 2 ^ (i % 64) : Nat) : Int)) := by
  obtain ⟨q, hq⟩ : ∃ q, i / 64 = q := ⟨_, rfl⟩
  obtain ⟨r, hr⟩ : ∃ r, i % 64 = r := ⟨_, rfl⟩
  have e1 : (i : Int).tdiv 64 = (q : Int) := by rw [Int.tdiv_eq_ediv_of_nonneg (by omega)]; omega
  have e2 : (i : Int) / 64 = (q : Int) := by omega
  have e3 : (i : Int).tmod 64 = (r : Int) := by rw [Int.tmod_eq_emod_of_nonneg (by omega)]; omega
  have e4 : (i : Int) % 64 = (r : Int) := by omega
  have q1 : q < 2 := by omega
  have r1 : r < 64 := by omega
  rw [hq] at hc ⊢
  rw [hr]
  have hp : 2 ^ r < 18446744073709551616 := Nat.pow_lt_pow_right (a := 2) (m := r) (n := 64) (by omega) r1
  have EP : Hid (IntKind.u64.wrap ((2 : Int) ^ r) = ((2 ^ r : Nat) : Int)) := by
    have e1 : (2 : Int) ^ r = ((2 ^ r : Nat) : Int) := by rw [Int.natCast_pow]; rfl
    unfold Hid
    rw [e1, IntKind.wrap_u64]
    generalize 2 ^ r = y at hp
    omega
  obtain ⟨wd, hwd⟩ : ∃ wd, w.drew = wd := ⟨_, rfl⟩
  have D : Wb wd g m c := by rw [← hwd]; exact hW
  have m1 := D.cell (o + q) (by omega)
  have f1 := D.frozen (o + q)
  obtain ⟨v, hv⟩ : ∃ v, c (o + q) = v := ⟨_, rfl⟩
  rw [hv] at m1 hc ⊢
  have eo := Lib.hid (u64_or v (2 ^ r) hc hp)
  have wq := IntWalk.i64_in (q : Int) (by omega)
  have wr := IntWalk.i64_in (r : Int) (by omega)
  have ur : IntKind.u64.wrap (r : Int) = (r : Int) := by rw [IntKind.wrap_u64]; omega
  have q0 : (0 : Int) ≤ (q : Int) := by omega
  have q2 : (q : Int) < 2 := by omega
  have r0 : (0 : Int) ≤ (r : Int) := by omega
  have r2 : (r : Int) < 64 := by omega
  clear hq hr hp hv hc hW D
  go_enter Tryz.func120, Tryz.ntmps120
  go_wp2
  refine wp_region_still_tail 13 (by kernel_rfl) (by kernel_rfl) ?_
  simp only [List.take_succ_cons, List.take_zero, List.drop_succ_cons, List.drop_zero]
  change wpStill _ _ w.drew _ _ _
  rw [hwd]
  repeat still_step
  refine wpStill_nil ?_
  go_wp2
  go_end0
  exact ⟨rfl, by rw [hwd, EP.out, eo.out]⟩

/-! How many indices a set of indices has. -/
section
open Go.RowKit Go.Shelf
set_option linter.unusedVariables false

set_option maxRecDepth 100000 in
set_option maxHeartbeats 1000000 in
theorem isize2 (a b : Nat) (ha : a < 18446744073709551616) (hb : b < 18446744073709551616) (w : World) :
    Calls Tryz.prog 114 #[.agg #[.int .u64 a, .int .u64 b]] w fun e w' => e = .returned (.int .i64 (cnt 64 (fun i => a.testBit i) + cnt 64 (fun i => b.testBit i) : Nat)) ∧ Below w.heap.size w w' := by
  have i0 : ∀ W : World, (Instr.index 140 (.agg #[.int .u64 a, .int .u64 b]) (.int .i64 0)).run Tryz.prog W = .ok (.int .u64 a) W := fun W => by kernel_rfl
  have i1 : ∀ W : World, (Instr.index 140 (.agg #[.int .u64 a, .int .u64 b]) (.int .i64 1)).run Tryz.prog W = .ok (.int .u64 b) W := fun W => by kernel_rfl
  have H1 := Lib.hid (fun W => iones64 a W ha)
  have H2 := Lib.hid (fun W => iones64 b W hb)
  have l1 := cnt_le (fun i => a.testBit i) 64
  have l2 := cnt_le (fun i => b.testBit i) 64
  obtain ⟨x, hx⟩ : ∃ x, cnt 64 (fun i => a.testBit i) = x := ⟨_, rfl⟩
  obtain ⟨y, hy⟩ : ∃ y, cnt 64 (fun i => b.testBit i) = y := ⟨_, rfl⟩
  simp only [hx] at H1 ⊢
  simp only [hy] at H2 ⊢
  have w0 := IntWalk.i64_in (x : Int) (by omega)
  have w1 := IntWalk.i64_in ((x : Int) + (y : Int)) (by omega)
  have B1 : Hid (Below w.heap.size w (w.alloc (.cells #[.int .u64 a, .int .u64 b] 140))) := (Below.refl _ _).alloc (Nat.le_refl _) _
  clear hx hy l1 l2 ha hb
  go_enter Tryz.func114, Tryz.ntmps114
  go_wp2
  refine wp_loop_rounds 3 ?_
  rw [rounds_succ]
  go_wp2_with fail
  refine (H1.out _).mono ?_
  rintro e w2 ⟨rfl, rfl⟩
  go_wp2
  rw [rounds_succ]
  go_wp2_with fail
  refine (H2.out _).mono ?_
  rintro e w3 ⟨rfl, rfl⟩
  go_wp2
  rw [rounds_succ]
  go_wp2
  go_ret
  exact ⟨rfl, B1.out⟩
end
end Go.Proofs.YtdhlnagkhkcoiaaGreatDoor
