/- Polynomials of the program: arrays of twelve coefficients. -/
import Derived.Test.YtmlcdbjibngnkaaFm
import Derived.Test.YtmlcdbjibngnkaaSl
import Derived.Deep.WholeRow
import Derived.Deep.RegionHeld3
import Derived.BigRegion
import Derived.Deep.Cut
namespace Go.Proofs.Ytmlcdbjibngnkaa
open Go.RowKit
set_option linter.unusedVariables false

def arr (n : Nat) (c : Co) : Array Value := ((vec n c).map (Value.int .i64)).toArray
@[simp] theorem arr_size (n : Nat) (c : Co) : (arr n c).size = n := by simp [arr]
theorem arr_get (n : Nat) (c : Co) (i : Nat) (h : i < n) : (arr n c)[i]? = some (.int .i64 (c i)) := by
  simp [arr, vec, h]
theorem arr_set (n : Nat) (c : Co) (i : Nat) (v : Int) : (arr n c).setIfInBounds i (.int .i64 v) = arr n (upd c i v) := by
  unfold arr
  rw [← vec_set]
  simp
theorem arr_one (n : Nat) (c : Co) : (arr n c).all (·.oneCell') = true := by
  rw [Array.all_eq_true_iff_forall_mem]
  intro v hv
  obtain ⟨x, _, rfl⟩ := List.mem_map.1 (by simpa [arr] using hv)
  rfl
theorem arr_congr (n : Nat) (c d : Co) (h : ∀ i, i < n → c i = d i) : arr n c = arr n d := by unfold arr; rw [vec_congr n c d h]

/-- The block g holds the polynomial c. -/
def At (w : World) (g : Nat) (c : Co) : Prop := w.heap[g]? = some (.cells (arr 12 c) 55 (0, 0))
theorem At.cell {w : World} {g : Nat} {c : Co} (h : At w g c) (i : Nat) (hi : i < 12) : w.cell? ⟨g, i, none⟩ = some (.int .i64 (c i)) := by
  rw [cell_of_row w g i _ _ _ h, arr_get 12 c i hi]
theorem At.frozen {w : World} {g : Nat} {c : Co} (h : At w g c) (i : Nat) : w.frozen? ⟨g, i, none⟩ = false := frozen_of_row w g i _ _ h
theorem At.set {w : World} {g : Nat} {c : Co} (h : At w g c) (i : Nat) (v : Int) : At (w.setCell ⟨g, i, none⟩ (.int .i64 v)) g (upd c i v) := by
  unfold At
  rw [heap_setCell_same w g i _ _ _ h, arr_set]
theorem At.other {w : World} {g k : Nat} {c : Co} (h : At w g c) (hne : g ≠ k) (i : Nat) (v : Value) : At (w.setCell ⟨k, i, none⟩ v) g c :=
  (heap_setCell_other w ⟨k, i, none⟩ g v hne).trans h
theorem At.lt {w : World} {g : Nat} {c : Co} (h : At w g c) : g < w.heap.size := by
  unfold At at h
  exact (Array.getElem?_eq_some_iff.1 h).1
theorem At.alloc {w : World} {g : Nat} {c : Co} (h : At w g c) (o : Obj) : At (w.alloc o) g c := (heap_alloc_old _ o h.lt).trans h
theorem At.setRow {w : World} {g k : Nat} {c : Co} (h : At w g c) (hne : g ≠ k) (cs : Array Value) : At (w.setRow k cs) g c := (setRow_other w k g cs hne).trans h
theorem At.new (w : World) (c : Co) : At (w.alloc (.cells (arr 12 c) 55)) w.heap.size c := heap_alloc_new w _
theorem At.below {w w' : World} {g B : Nat} {c : Co} (h : At w g c) (hb : Below B w w') (hg : g < B) : At w' g c := (hb.block g hg).trans h
theorem At.congr {w : World} {g : Nat} {c d : Co} (h : At w g c) (he : ∀ i, i < 12 → c i = d i) : At w g d := by unfold At; rw [← arr_congr 12 c d he]; exact h
theorem At.drewN {w : World} {g : Nat} {c : Co} (h : At w g c) (n : Nat) : At (w.drewN n) g c := h
theorem At.drew {w : World} {g : Nat} {c : Co} (h : At w g c) : At w.drew g c := h
theorem arr_zero (c : Co) (h : ∀ i, i < 12 → c i = 0) : arr 12 c = #[.int .i64 0, .int .i64 0, .int .i64 0, .int .i64 0, .int .i64 0, .int .i64 0, .int .i64 0, .int .i64 0, .int .i64 0, .int .i64 0, .int .i64 0, .int .i64 0] := by
  rw [arr_congr 12 c (fun _ => 0) h]; rfl
theorem At.zero {w : World} {g : Nat} (h : w.heap[g]? = some (.cells #[.int .i64 0, .int .i64 0, .int .i64 0, .int .i64 0, .int .i64 0, .int .i64 0, .int .i64 0, .int .i64 0, .int .i64 0, .int .i64 0, .int .i64 0, .int .i64 0] 55 (0, 0))) : At w g (fun _ => 0) := by
  unfold At; rw [arr_zero _ (fun _ _ => rfl)]; exact h
theorem Try.infoPoly : (Try.prog.info? 55).map (·.size) = some 12 := by kernel_rfl

theorem below_setRow {B : Nat} {a w : World} (h : Below B a w) {g : Nat} (hg : B ≤ g) (cs : Array Value) : Below B a (w.setRow g cs) :=
  ⟨h.os, h.tape, h.output, by rw [size_setRow]; exact h.size, fun k hk => (setRow_other w g k cs (by omega)).trans (h.block k hk)⟩
theorem w64 {n : Int} (h : -9223372036854775808 ≤ n ∧ n ≤ 9223372036854775807) : wrap64 n = n := by unfold wrap64; omega
/-- The whole polynomial, read. -/
theorem At.loads {w : World} {g : Nat} {c : Co} (h : At w g c) : (loadCellsFrom ⟨g, 0, none⟩ 0 12 #[]).run Try.prog w = .ok (arr 12 c) w := by
  have := run_loadCells_list (P := Try.prog) w ⟨g, 0, none⟩ (arr 12 c).toList (fun j v hv => by
    have hadd : (⟨g, 0, none⟩ : Addr).add j = ⟨g, j, none⟩ := by unfold Addr.add; split <;> simp_all
    rw [hadd, cell_of_row w g j _ _ _ h]
    simpa using hv)
  simpa [loadCells] using this
/-- .. and written. -/
theorem At.stores {w : World} {g : Nat} {c d : Co} (h : At w g c) : (storeCells ⟨g, 0, none⟩ (arr 12 d).toList 0).run Try.prog w = .ok () (w.setRow g (arr 12 d)) := by
  have := run_storeVar_row (P := Try.prog) w g 55 55 (arr 12 c) (arr 12 d) h (by rw [arr_size]; exact Try.infoPoly) (by simp) (arr_one 12 d)
  have hi := Try.infoPoly
  cases hq : Try.prog.info? 55 with
  | none => simp [hq] at hi
  | some i =>
    have hs : i.size = 12 := by simpa [hq] using hi
    simpa [storeVar, sizeOf, typeInfo, hq, Value.cells, hs] using this

theorem At.stores_new (W : World) (d : Co) : (storeCells ⟨W.heap.size, 0, none⟩ (arr 12 d).toList 0).run Try.prog (W.alloc (.cells #[.int .i64 0, .int .i64 0, .int .i64 0, .int .i64 0, .int .i64 0, .int .i64 0, .int .i64 0, .int .i64 0, .int .i64 0, .int .i64 0, .int .i64 0, .int .i64 0] 55)) = .ok () (W.alloc (.cells (arr 12 d) 55)) :=
  run_storeCells_new W 55 _ (arr 12 d) (by rw [arr_size]; exact Try.infoPoly) (by rw [arr_size]; rfl) (arr_one 12 d)
theorem At.cells {w : World} {g : Nat} {c : Co} (h : At w g c) : w.cell? ⟨g, 0, none⟩ = some (.int .i64 (c 0)) ∧ w.cell? ⟨g, 1, none⟩ = some (.int .i64 (c 1)) ∧ w.cell? ⟨g, 2, none⟩ = some (.int .i64 (c 2)) ∧ w.cell? ⟨g, 3, none⟩ = some (.int .i64 (c 3)) ∧ w.cell? ⟨g, 4, none⟩ = some (.int .i64 (c 4)) ∧ w.cell? ⟨g, 5, none⟩ = some (.int .i64 (c 5)) ∧ w.cell? ⟨g, 6, none⟩ = some (.int .i64 (c 6)) ∧ w.cell? ⟨g, 7, none⟩ = some (.int .i64 (c 7)) ∧ w.cell? ⟨g, 8, none⟩ = some (.int .i64 (c 8)) ∧ w.cell? ⟨g, 9, none⟩ = some (.int .i64 (c 9)) ∧ w.cell? ⟨g, 10, none⟩ = some (.int .i64 (c 10)) ∧ w.cell? ⟨g, 11, none⟩ = some (.int .i64 (c 11)) :=
  ⟨h.cell 0 (by omega), h.cell 1 (by omega), h.cell 2 (by omega), h.cell 3 (by omega), h.cell 4 (by omega), h.cell 5 (by omega), h.cell 6 (by omega), h.cell 7 (by omega), h.cell 8 (by omega), h.cell 9 (by omega), h.cell 10 (by omega), h.cell 11 (by omega)⟩

theorem at3 (w : World) (a b : Co) : Hid (At (((w.alloc (.cells (arr 12 a) 55)).alloc (.cells (arr 12 b) 55)).alloc (.cells #[.int .i64 0, .int .i64 0, .int .i64 0, .int .i64 0, .int .i64 0, .int .i64 0, .int .i64 0, .int .i64 0, .int .i64 0, .int .i64 0, .int .i64 0, .int .i64 0] 55)) w.heap.size a ∧ At (((w.alloc (.cells (arr 12 a) 55)).alloc (.cells (arr 12 b) 55)).alloc (.cells #[.int .i64 0, .int .i64 0, .int .i64 0, .int .i64 0, .int .i64 0, .int .i64 0, .int .i64 0, .int .i64 0, .int .i64 0, .int .i64 0, .int .i64 0, .int .i64 0] 55)) (w.heap.size + 1) b ∧ At (((w.alloc (.cells (arr 12 a) 55)).alloc (.cells (arr 12 b) 55)).alloc (.cells #[.int .i64 0, .int .i64 0, .int .i64 0, .int .i64 0, .int .i64 0, .int .i64 0, .int .i64 0, .int .i64 0, .int .i64 0, .int .i64 0, .int .i64 0, .int .i64 0] 55)) (w.heap.size + 2) (fun _ => 0) ∧ Below w.heap.size w (((w.alloc (.cells (arr 12 a) 55)).alloc (.cells (arr 12 b) 55)).alloc (.cells #[.int .i64 0, .int .i64 0, .int .i64 0, .int .i64 0, .int .i64 0, .int .i64 0, .int .i64 0, .int .i64 0, .int .i64 0, .int .i64 0, .int .i64 0, .int .i64 0] 55))) := by
  refine ⟨((At.new w a).alloc _).alloc _, ?_, ?_, (((Below.refl _ _).alloc (Nat.le_refl _) _).alloc (by rw [World.size_alloc]; omega) _).alloc (by simp only [World.size_alloc]; omega) _⟩
  · have := (At.new (w.alloc (.cells (arr 12 a) 55)) b).alloc (.cells #[.int .i64 0, .int .i64 0, .int .i64 0, .int .i64 0, .int .i64 0, .int .i64 0, .int .i64 0, .int .i64 0, .int .i64 0, .int .i64 0, .int .i64 0, .int .i64 0] 55)
    rw [World.size_alloc] at this
    exact this
  · have := At.zero (heap_alloc_new ((w.alloc (.cells (arr 12 a) 55)).alloc (.cells (arr 12 b) 55)) (.cells #[.int .i64 0, .int .i64 0, .int .i64 0, .int .i64 0, .int .i64 0, .int .i64 0, .int .i64 0, .int .i64 0, .int .i64 0, .int .i64 0, .int .i64 0, .int .i64 0] 55))
    simp only [World.size_alloc] at this
    exact this
theorem at4 (w : World) (a b : Co) : Hid (At ((((w.alloc (.cells (arr 12 a) 55)).alloc (.cells (arr 12 b) 55)).alloc (.cells #[.int .i64 0, .int .i64 0, .int .i64 0, .int .i64 0, .int .i64 0, .int .i64 0, .int .i64 0, .int .i64 0, .int .i64 0, .int .i64 0, .int .i64 0, .int .i64 0] 55)).alloc (.cells #[.int .i64 0, .int .i64 0, .int .i64 0, .int .i64 0, .int .i64 0, .int .i64 0, .int .i64 0, .int .i64 0, .int .i64 0, .int .i64 0, .int .i64 0, .int .i64 0] 55)) w.heap.size a ∧ At ((((w.alloc (.cells (arr 12 a) 55)).alloc (.cells (arr 12 b) 55)).alloc (.cells #[.int .i64 0, .int .i64 0, .int .i64 0, .int .i64 0, .int .i64 0, .int .i64 0, .int .i64 0, .int .i64 0, .int .i64 0, .int .i64 0, .int .i64 0, .int .i64 0] 55)).alloc (.cells #[.int .i64 0, .int .i64 0, .int .i64 0, .int .i64 0, .int .i64 0, .int .i64 0, .int .i64 0, .int .i64 0, .int .i64 0, .int .i64 0, .int .i64 0, .int .i64 0] 55)) (w.heap.size + 1) b ∧ At ((((w.alloc (.cells (arr 12 a) 55)).alloc (.cells (arr 12 b) 55)).alloc (.cells #[.int .i64 0, .int .i64 0, .int .i64 0, .int .i64 0, .int .i64 0, .int .i64 0, .int .i64 0, .int .i64 0, .int .i64 0, .int .i64 0, .int .i64 0, .int .i64 0] 55)).alloc (.cells #[.int .i64 0, .int .i64 0, .int .i64 0, .int .i64 0, .int .i64 0, .int .i64 0, .int .i64 0, .int .i64 0, .int .i64 0, .int .i64 0, .int .i64 0, .int .i64 0] 55)) (w.heap.size + 2) (fun _ => 0) ∧ At ((((w.alloc (.cells (arr 12 a) 55)).alloc (.cells (arr 12 b) 55)).alloc (.cells #[.int .i64 0, .int .i64 0, .int .i64 0, .int .i64 0, .int .i64 0, .int .i64 0, .int .i64 0, .int .i64 0, .int .i64 0, .int .i64 0, .int .i64 0, .int .i64 0] 55)).alloc (.cells #[.int .i64 0, .int .i64 0, .int .i64 0, .int .i64 0, .int .i64 0, .int .i64 0, .int .i64 0, .int .i64 0, .int .i64 0, .int .i64 0, .int .i64 0, .int .i64 0] 55)) (w.heap.size + 3) (fun _ => 0) ∧ Below w.heap.size w ((((w.alloc (.cells (arr 12 a) 55)).alloc (.cells (arr 12 b) 55)).alloc (.cells #[.int .i64 0, .int .i64 0, .int .i64 0, .int .i64 0, .int .i64 0, .int .i64 0, .int .i64 0, .int .i64 0, .int .i64 0, .int .i64 0, .int .i64 0, .int .i64 0] 55)).alloc (.cells #[.int .i64 0, .int .i64 0, .int .i64 0, .int .i64 0, .int .i64 0, .int .i64 0, .int .i64 0, .int .i64 0, .int .i64 0, .int .i64 0, .int .i64 0, .int .i64 0] 55))) := by
  obtain ⟨h1, h2, h3, h4⟩ := at3 w a b
  refine ⟨h1.alloc _, h2.alloc _, h3.alloc _, ?_, h4.alloc (by simp only [World.size_alloc]; omega) _⟩
  have := At.zero (heap_alloc_new (((w.alloc (.cells (arr 12 a) 55)).alloc (.cells (arr 12 b) 55)).alloc (.cells #[.int .i64 0, .int .i64 0, .int .i64 0, .int .i64 0, .int .i64 0, .int .i64 0, .int .i64 0, .int .i64 0, .int .i64 0, .int .i64 0, .int .i64 0, .int .i64 0] 55)) (.cells #[.int .i64 0, .int .i64 0, .int .i64 0, .int .i64 0, .int .i64 0, .int .i64 0, .int .i64 0, .int .i64 0, .int .i64 0, .int .i64 0, .int .i64 0, .int .i64 0] 55))
  simp only [World.size_alloc] at this
  exact this

theorem dg_end (p a k : Nat) (h : a / p ^ k = 0) (j : Nat) (hj : k ≤ j) : dg p a j = 0 := by
  unfold dg
  have : a / p ^ j = 0 := by
    rw [show j = k + (j - k) by omega, Nat.pow_add, ← Nat.div_div_eq_div_mul, h, Nat.zero_div]
  rw [this]; simp
theorem digits_few (p a k : Nat) (hp : 2 ≤ p) (ha : a < 64) (h : a / p ^ k ≠ 0) : k < 6 := by
  by_cases hk : k < 6
  · exact hk
  · refine absurd (Nat.div_eq_of_lt (Nat.lt_of_lt_of_le ha ?_)) h
    calc 64 = 2 ^ 6 := rfl
      _ ≤ 2 ^ k := Nat.pow_le_pow_right (by omega) (by omega)
      _ ≤ p ^ k := Nat.pow_le_pow_left hp k

/-- The polynomial with the digits of a number. -/
theorem polyOf (a p : Nat) (w : World) (hp : 2 ≤ p) (hp' : p ≤ 64) (ha : a < 64) :
    Calls Try.prog 93 #[.int .i64 a, .int .i64 p] w fun e w' => e = .returned (.agg (arr 12 (dg p a))) ∧ Below w.heap.size w w' := by
  have z1 : ¬ (p : Int) = 0 := by omega
  have HA := Lib.hid ha
  have A0 : Hid (At ((w.alloc (.cells #[.int .i64 0, .int .i64 0, .int .i64 0, .int .i64 0, .int .i64 0, .int .i64 0, .int .i64 0, .int .i64 0, .int .i64 0, .int .i64 0, .int .i64 0, .int .i64 0] 55)).alloc (.cells #[.int .i64 0, .int .i64 0, .int .i64 0, .int .i64 0, .int .i64 0, .int .i64 0, .int .i64 0, .int .i64 0, .int .i64 0, .int .i64 0, .int .i64 0, .int .i64 0] 55)) w.heap.size (fun _ => 0) ∧ At ((w.alloc (.cells #[.int .i64 0, .int .i64 0, .int .i64 0, .int .i64 0, .int .i64 0, .int .i64 0, .int .i64 0, .int .i64 0, .int .i64 0, .int .i64 0, .int .i64 0, .int .i64 0] 55)).alloc (.cells #[.int .i64 0, .int .i64 0, .int .i64 0, .int .i64 0, .int .i64 0, .int .i64 0, .int .i64 0, .int .i64 0, .int .i64 0, .int .i64 0, .int .i64 0, .int .i64 0] 55)) (w.heap.size + 1) (fun _ => 0)) :=
    ⟨At.zero (heap_alloc2_old _ _ _), At.zero (heap_alloc2_new _ _ _)⟩
  go_enter Try.func93, Try.ntmps93
  go_wp2
  go_loopw [0, 6] (fun u i wr => ∃ k : Nat, k ≤ 6 ∧ u = .int .i64 ((a / p ^ k : Nat) : Int) ∧ i = .int .i64 k ∧ Hid (At wr w.heap.size (fun _ => 0)) ∧ Hid (At wr (w.heap.size + 1) (fun j => if j < k then dg p a j else 0)) ∧ Hid (Below w.heap.size w wr)) (fun u _ _ => (intOf u).toNat)
  case atStart =>
    refine ⟨0, by omega, by simp, rfl, A0.out.1, A0.out.2.congr (fun i _ => by simp), ?_⟩
    exact ((Below.refl _ _).alloc (Nat.le_refl _) _).alloc (by show w.heap.size ≤ (w.heap.push _).size; simp) _
  case round =>
    obtain ⟨k, hk, rfl, rfl, a0, a1, hb⟩ := hrel
    obtain ⟨q, hq⟩ : ∃ q, a / p ^ k = q := ⟨_, rfl⟩
    have HQ := Lib.hid hq
    rw [hq]
    clear hq
    by_cases h0 : q = 0
    · subst h0
      have P1 : Hid (At wr (w.heap.size + 1) (dg p a)) := a1.out.congr (fun j hj => by
        by_cases h : j < k
        · rw [if_pos h]
        · rw [if_neg h, dg_end p a k HQ.out j (by omega)])
      have hlc := P1.out.loads
      have hsc := a0.out.stores (d := dg p a)
      have P2 : Hid (At (wr.setRow w.heap.size (arr 12 (dg p a))) w.heap.size (dg p a)) := setRow_heap _ _ _ _ _ _ a0.out
      go_upto_region 7 with fail
      refine wp_region_list ?_
      refine wpList_load_row rfl 55 (.tmp 5) rfl _ rfl _ _ _ _ P1.out Try.underlying55 rfl (by rw [arr_size]; exact Try.infoPoly) ?_
      refine wpList_store_row rfl 55 (.tmp 4) (.tmp 19) rfl _ (arr 12 (dg p a)) rfl rfl _ _ a0.out (by rw [arr_size]; exact Try.infoPoly) (by simp) (arr_one _ _) ?_
      go_wp2
      refine bodyPost_ret (v := .agg (arr 12 (dg p a))) (results_cell_row Try.results93 _ _ _ _ _ _ _ rfl P2.out Try.underlying55 rfl (by rw [arr_size]; exact Try.infoPoly)) rfl ⟨rfl, ?_⟩
      exact below_setRow hb.out (Nat.le_refl _) _
    · have k6 := digits_few p a k hp HA.out (by rw [HQ.out]; exact h0)
      have q0 : (0 : Int) < (q : Int) := by omega
      have hf := a1.out.frozen k
      obtain ⟨old, hold⟩ : ∃ old, wr.cell? ⟨w.heap.size + 1, k, none⟩ = some old := ⟨_, a1.out.cell k (by omega)⟩
      have i0 : (0 : Int) ≤ (k : Int) := by omega
      have i1 : (k : Int) < 12 := by omega
      have S1 : Hid (At (wr.setCell ⟨w.heap.size + 1, k, none⟩ (.int .i64 ((q : Int) % (p : Int)))) (w.heap.size + 1) (fun j => if j < k + 1 then dg p a j else 0)) :=
        (a1.out.set k _).congr (fun j hj => by
          unfold upd
          by_cases e : j = k
          · subst e; rw [if_pos rfl, if_pos (by omega)]; unfold dg; rw [HQ.out]; rfl
          · rw [if_neg e]
            show (if j < k then dg p a j else 0) = _
            by_cases h : j < k
            · rw [if_pos h, if_pos (by omega)]
            · rw [if_neg h, if_neg (by omega)])
      have S0 : Hid (At (wr.setCell ⟨w.heap.size + 1, k, none⟩ (.int .i64 ((q : Int) % (p : Int)))) w.heap.size (fun _ => 0)) := a0.out.other (by omega) _ _
      have SB : Hid (Below w.heap.size w (wr.setCell ⟨w.heap.size + 1, k, none⟩ (.int .i64 ((q : Int) % (p : Int))))) := hb.out.setCell (Nat.le_succ _) _
      have E := Lib.hid (show (q : Int) / (p : Int) = ((a / p ^ (k + 1) : Nat) : Int) by rw [Nat.pow_succ, ← Nat.div_div_eq_div_mul, HQ.out]; rfl)
      have L := Lib.hid (show ((a / p ^ (k + 1) : Nat) : Int) < 64 ∧ wrap64 ((q : Int) / (p : Int)) = ((a / p ^ (k + 1) : Nat) : Int) by
        have h1 := Nat.div_le_self a (p ^ (k + 1))
        rw [E.out]
        generalize a / p ^ (k + 1) = D at h1 ⊢
        exact ⟨by omega, w64 (by omega)⟩)
      have M := Lib.hid (Nat.div_lt_self (show 0 < q by omega) (show 1 < p by omega))
      go_wp2
      go_roundw
      case rel => exact ⟨k + 1, by omega, by rw [L.out.2], by go_num, S0, S1, SB⟩
      case measure =>
        rw [L.out.2]
        simp only [intOf]
        have e := E.out
        have m := M.out
        have : (q : Int) / (p : Int) = ((q / p : Nat) : Int) := rfl
        omega
end Go.Proofs.Ytmlcdbjibngnkaa
