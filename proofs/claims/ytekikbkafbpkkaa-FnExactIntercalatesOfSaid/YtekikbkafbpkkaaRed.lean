/- The reduced form of a square: the numbers; the program's closures and reduced. -/
import Derived.Test.YtekikbkafbpkkaaIso
namespace Go.Proofs.Ytekikbkafbpkkaa
open Go.RowKit Go.Shelf
set_option linter.unusedVariables false

def redMv1 (f : Nat → Nat → Int) : Nat → Nat → Nat × Nat × Int := fun x y => (x, (f 0 y).toNat, f x y)
def redMv2 (f : Nat → Nat → Int) : Nat → Nat → Nat × Nat × Int := fun x y => ((f x 0).toNat, y, f x y)
def ordF (n : Nat) (f : Nat → Nat → Int) : Nat → Nat → Int := movSt n (redMv1 f) n
def redF (n : Nat) (f : Nat → Nat → Int) : Nat → Nat → Int := movSt n (redMv2 (ordF n f)) n
theorem rowSt_congr {mv mv' : Nat → Nat → Nat × Nat × Int} {x : Nat} {f : Nat → Nat → Int} : ∀ y, (∀ b, b < y → mv x b = mv' x b) → rowSt mv x f y = rowSt mv' x f y
  | 0, _ => rfl
  | y + 1, h => by rw [rowSt, rowSt, rowSt_congr y (fun b hb => h b (by omega)), h y (by omega)]
theorem movSt_congr {n : Nat} {mv mv' : Nat → Nat → Nat × Nat × Int} : ∀ x, (∀ a b, a < x → b < n → mv a b = mv' a b) → movSt n mv x = movSt n mv' x
  | 0, _ => rfl
  | x + 1, h => by rw [movSt, movSt, movSt_congr x (fun a b ha hb => h a b (by omega) hb), rowSt_congr n (fun b hb => h x b (by omega) hb)]
theorem rowSt_range {P : Int → Prop} {mv : Nat → Nat → Nat × Nat × Int} {x : Nat} {f : Nat → Nat → Int} (hf : ∀ a b, P (f a b)) : ∀ y, (∀ b, b < y → P (mv x b).2.2) → ∀ a b, P (rowSt mv x f y a b)
  | 0, _ => hf
  | y + 1, h => fun a b => by
    rw [rowSt]
    unfold upd2
    split
    · exact h y (by omega)
    · exact rowSt_range hf y (fun b hb => h b (by omega)) a b
theorem movSt_range {P : Int → Prop} (h0 : P 0) {n : Nat} {mv : Nat → Nat → Nat × Nat × Int} : ∀ x, (∀ a b, a < x → b < n → P (mv a b).2.2) → ∀ a b, P (movSt n mv x a b)
  | 0, _ => fun _ _ => h0
  | x + 1, h => rowSt_range (movSt_range h0 x (fun a b ha hb => h a b (by omega) hb)) n (fun b hb => h x b (by omega) hb)
def InSq (n : Nat) (f : Nat → Nat → Int) : Prop := ∀ x y, x < n → y < n → 0 ≤ f x y ∧ f x y < n
theorem ordF_in {n : Nat} {f : Nat → Nat → Int} (h1 : 1 ≤ n) (h : InSq n f) : ∀ a b, 0 ≤ ordF n f a b ∧ ordF n f a b < n :=
  movSt_range (P := fun z => 0 ≤ z ∧ z < n) (by omega) n (fun a b ha hb => h a b ha hb)
theorem ordF_congr {n : Nat} {f g : Nat → Nat → Int} (h : ∀ x y, x < n → y < n → f x y = g x y) : ordF n f = ordF n g :=
  movSt_congr n (fun a b ha hb => by unfold redMv1; rw [h 0 b (by omega) hb, h a b ha hb])
theorem redF_congr {n : Nat} {f g : Nat → Nat → Int} (h : ∀ x y, x < n → y < n → f x y = g x y) : redF n f = redF n g := by unfold redF; rw [ordF_congr h]

set_option maxRecDepth 100000 in
set_option maxHeartbeats 8000000 in
theorem iredc1 (W : World) (b n : Nat) (f : Nat → Nat → Int) (hS : SqAt W b n f) (x y : Nat) (z : Int) (hx : x < 10) (hy : y < 10) :
    Calls Try.prog 69 #[.agg #[.int .i64 x, .int .i64 y, .int .i64 z], .pointer (some ⟨b, 0, none⟩)] W fun e W' =>
      e = .returned (.agg #[.int .i64 x, .int .i64 (f 0 y), .int .i64 z]) ∧ Below W.heap.size W W' := by
  obtain ⟨v, hv⟩ : ∃ v, f 0 y = v := ⟨_, rfl⟩
  rw [hv]
  have bl := Ia.lt hS
  obtain ⟨g, hg⟩ : ∃ g, W.heap.size = g := ⟨_, rfl⟩
  have z1 : (W.alloc (.cells #[.int .i64 x, .int .i64 y, .int .i64 z] 69)).heap.size = g + 1 := by rw [World.size_alloc, hg]
  have B1 : Below g W (W.alloc (.cells #[.int .i64 x, .int .i64 y, .int .i64 z] 69)) := (Below.refl _ _).alloc (by omega) _
  have T1 : (W.alloc (.cells #[.int .i64 x, .int .i64 y, .int .i64 z] 69)).heap[g]? = some (.cells #[.int .i64 x, .int .i64 y, .int .i64 z] 69 (0, 0)) := by rw [← hg]; exact heap_alloc_new _ _
  obtain ⟨w1, hw1⟩ : ∃ w1, W.alloc (.cells #[.int .i64 x, .int .i64 y, .int .i64 z] 69) = w1 := ⟨_, rfl⟩
  rw [hw1] at z1 B1 T1
  have B2 : Below g W (w1.alloc (.cells #[.int .i64 0, .int .i64 0, .int .i64 0] 69)) := B1.alloc (by omega) _
  have T2 : (w1.alloc (.cells #[.int .i64 0, .int .i64 0, .int .i64 0] 69)).heap[g]? = some (.cells #[.int .i64 x, .int .i64 y, .int .i64 z] 69 (0, 0)) := (heap_alloc_old _ _ (by omega)).trans T1
  have Q2 : (w1.alloc (.cells #[.int .i64 0, .int .i64 0, .int .i64 0] 69)).heap[g + 1]? = some (.cells #[.int .i64 0, .int .i64 0, .int .i64 0] 69 (0, 0)) := by rw [← z1]; exact heap_alloc_new _ _
  obtain ⟨w2, hw2⟩ : ∃ w2, w1.alloc (.cells #[.int .i64 0, .int .i64 0, .int .i64 0] 69) = w2 := ⟨_, rfl⟩
  rw [hw2] at B2 T2 Q2
  obtain ⟨wd, hwd⟩ : ∃ wd, w2.drew = wd := ⟨_, rfl⟩
  have B3 : Below g W wd := by rw [← hwd]; exact B2.drew
  have T3 : wd.heap[g]? = some (.cells #[.int .i64 x, .int .i64 y, .int .i64 z] 69 (0, 0)) := by rw [← hwd]; exact T2
  have Q3 : wd.heap[g + 1]? = some (.cells #[.int .i64 0, .int .i64 0, .int .i64 0] 69 (0, 0)) := by rw [← hwd]; exact Q2
  have e1 : wd.cell? ⟨g, 0, none⟩ = some (.int .i64 x) := by rw [cell_of_row wd g 0 _ _ _ T3]; rfl
  have e2 : wd.cell? ⟨g, 1, none⟩ = some (.int .i64 y) := by rw [cell_of_row wd g 1 _ _ _ T3]; rfl
  have e3 : wd.cell? ⟨g, 2, none⟩ = some (.int .i64 z) := by rw [cell_of_row wd g 2 _ _ _ T3]; rfl
  have S3 := SqAt.below hS B3 (by omega)
  have d1 := Ia.cell S3 (1 + 0 * 10 + y) (by omega)
  rw [sqC_at _ _ (by omega), hv] at d1
  have d1' : wd.cell? ⟨b, 1 + y, none⟩ = some (.int .i64 v) := by rw [← d1] <;> congr 2
  have x0 : (0 : Int) ≤ (x : Int) := by omega
  have y0 : (0 : Int) ≤ (y : Int) := by omega
  have x1 : (x : Int) < 10 := by omega
  have y1 : (y : Int) < 10 := by omega
  have P4 : Hid ((wd.setRow (g + 1) #[.int .i64 x, .int .i64 (v), .int .i64 z]).heap[g + 1]? = some (.cells #[.int .i64 x, .int .i64 (v), .int .i64 z] 69 (0, 0))) := setRow_heap _ _ _ _ _ _ Q3
  have P5 : Hid (Below g W (wd.setRow (g + 1) #[.int .i64 x, .int .i64 (v), .int .i64 z])) := below_row B3 (by omega) _
  have HQ := Lib.hid Q3
  rw [hg]
  clear hS hv B1 B2 B3 T1 T2 T3 Q2 Q3 S3
  go_enter Try.func69, Try.ntmps69
  go_wp2
  refine wp_region_still_tail 11 (by kernel_rfl) (by kernel_rfl) ?_
  simp only [List.take_succ_cons, List.take_zero, List.drop_succ_cons, List.drop_zero]
  change wpStill _ _ w2.drew _ _ _
  rw [hwd]
  repeat still_step
  refine wpStill_nil ?_
  change wpList _ _ _ _ _ w2.drew
  rw [hwd]
  clear hwd hw1 hw2
  refine wpList_store_row rfl 69 (.tmp 3) (.tmp 14) rfl _ #[.int .i64 x, .int .i64 (v), .int .i64 z] rfl rfl _ _ HQ.out (by kernel_rfl) (by rfl) (by simp [Value.oneCell']) ?_
  go_wp2
  refine bodyPost_ret (v := .agg #[.int .i64 x, .int .i64 (v), .int .i64 z]) (results_cell_row Try.results69 _ _ _ _ _ _ _ rfl P4.out Try.underlying69 rfl (by kernel_rfl)) rfl ⟨rfl, P5.out⟩

set_option maxRecDepth 100000 in
set_option maxHeartbeats 8000000 in
theorem iredc2 (W : World) (b n : Nat) (f : Nat → Nat → Int) (hS : SqAt W b n f) (x y : Nat) (z : Int) (hx : x < 10) (hy : y < 10) :
    Calls Try.prog 70 #[.agg #[.int .i64 x, .int .i64 y, .int .i64 z], .pointer (some ⟨b, 0, none⟩)] W fun e W' =>
      e = .returned (.agg #[.int .i64 (f x 0), .int .i64 y, .int .i64 z]) ∧ Below W.heap.size W W' := by
  obtain ⟨v, hv⟩ : ∃ v, f x 0 = v := ⟨_, rfl⟩
  rw [hv]
  have bl := Ia.lt hS
  obtain ⟨g, hg⟩ : ∃ g, W.heap.size = g := ⟨_, rfl⟩
  have z1 : (W.alloc (.cells #[.int .i64 x, .int .i64 y, .int .i64 z] 69)).heap.size = g + 1 := by rw [World.size_alloc, hg]
  have B1 : Below g W (W.alloc (.cells #[.int .i64 x, .int .i64 y, .int .i64 z] 69)) := (Below.refl _ _).alloc (by omega) _
  have T1 : (W.alloc (.cells #[.int .i64 x, .int .i64 y, .int .i64 z] 69)).heap[g]? = some (.cells #[.int .i64 x, .int .i64 y, .int .i64 z] 69 (0, 0)) := by rw [← hg]; exact heap_alloc_new _ _
  obtain ⟨w1, hw1⟩ : ∃ w1, W.alloc (.cells #[.int .i64 x, .int .i64 y, .int .i64 z] 69) = w1 := ⟨_, rfl⟩
  rw [hw1] at z1 B1 T1
  have B2 : Below g W (w1.alloc (.cells #[.int .i64 0, .int .i64 0, .int .i64 0] 69)) := B1.alloc (by omega) _
  have T2 : (w1.alloc (.cells #[.int .i64 0, .int .i64 0, .int .i64 0] 69)).heap[g]? = some (.cells #[.int .i64 x, .int .i64 y, .int .i64 z] 69 (0, 0)) := (heap_alloc_old _ _ (by omega)).trans T1
  have Q2 : (w1.alloc (.cells #[.int .i64 0, .int .i64 0, .int .i64 0] 69)).heap[g + 1]? = some (.cells #[.int .i64 0, .int .i64 0, .int .i64 0] 69 (0, 0)) := by rw [← z1]; exact heap_alloc_new _ _
  obtain ⟨w2, hw2⟩ : ∃ w2, w1.alloc (.cells #[.int .i64 0, .int .i64 0, .int .i64 0] 69) = w2 := ⟨_, rfl⟩
  rw [hw2] at B2 T2 Q2
  obtain ⟨wd, hwd⟩ : ∃ wd, w2.drew = wd := ⟨_, rfl⟩
  have B3 : Below g W wd := by rw [← hwd]; exact B2.drew
  have T3 : wd.heap[g]? = some (.cells #[.int .i64 x, .int .i64 y, .int .i64 z] 69 (0, 0)) := by rw [← hwd]; exact T2
  have Q3 : wd.heap[g + 1]? = some (.cells #[.int .i64 0, .int .i64 0, .int .i64 0] 69 (0, 0)) := by rw [← hwd]; exact Q2
  have e1 : wd.cell? ⟨g, 0, none⟩ = some (.int .i64 x) := by rw [cell_of_row wd g 0 _ _ _ T3]; rfl
  have e2 : wd.cell? ⟨g, 1, none⟩ = some (.int .i64 y) := by rw [cell_of_row wd g 1 _ _ _ T3]; rfl
  have e3 : wd.cell? ⟨g, 2, none⟩ = some (.int .i64 z) := by rw [cell_of_row wd g 2 _ _ _ T3]; rfl
  have S3 := SqAt.below hS B3 (by omega)
  have d1 := Ia.cell S3 (1 + x * 10 + 0) (by omega)
  rw [sqC_at _ _ (by omega), hv] at d1
  have d1' : wd.cell? ⟨b, 1 + x * 10, none⟩ = some (.int .i64 v) := by rw [← d1] <;> congr 2
  have x0 : (0 : Int) ≤ (x : Int) := by omega
  have y0 : (0 : Int) ≤ (y : Int) := by omega
  have x1 : (x : Int) < 10 := by omega
  have y1 : (y : Int) < 10 := by omega
  have P4 : Hid ((wd.setRow (g + 1) #[.int .i64 (v), .int .i64 y, .int .i64 z]).heap[g + 1]? = some (.cells #[.int .i64 (v), .int .i64 y, .int .i64 z] 69 (0, 0))) := setRow_heap _ _ _ _ _ _ Q3
  have P5 : Hid (Below g W (wd.setRow (g + 1) #[.int .i64 (v), .int .i64 y, .int .i64 z])) := below_row B3 (by omega) _
  have HQ := Lib.hid Q3
  rw [hg]
  clear hS hv B1 B2 B3 T1 T2 T3 Q2 Q3 S3
  go_enter Try.func70, Try.ntmps70
  go_wp2
  refine wp_region_still_tail 11 (by kernel_rfl) (by kernel_rfl) ?_
  simp only [List.take_succ_cons, List.take_zero, List.drop_succ_cons, List.drop_zero]
  change wpStill _ _ w2.drew _ _ _
  rw [hwd]
  repeat still_step
  refine wpStill_nil ?_
  change wpList _ _ _ _ _ w2.drew
  rw [hwd]
  clear hwd hw1 hw2
  refine wpList_store_row rfl 69 (.tmp 3) (.tmp 14) rfl _ #[.int .i64 (v), .int .i64 y, .int .i64 z] rfl rfl _ _ HQ.out (by kernel_rfl) (by rfl) (by simp [Value.oneCell']) ?_
  go_wp2
  refine bodyPost_ret (v := .agg #[.int .i64 (v), .int .i64 y, .int .i64 z]) (results_cell_row Try.results70 _ _ _ _ _ _ _ rfl P4.out Try.underlying69 rfl (by kernel_rfl)) rfl ⟨rfl, P5.out⟩

set_option maxRecDepth 100000 in
set_option maxHeartbeats 8000000 in
theorem ired (n : Nat) (h1 : 1 ≤ n) (hn : n ≤ 10) (w : World) (f : Nat → Nat → Int) (hf : InSq n f) :
    Calls Try.prog 48 #[.agg (iar 101 (sqC n f))] w fun e w' => e = .returned (.agg (iar 101 (sqC n (redF n f)))) ∧ Below w.heap.size w w' := by
  have hmf : ∀ (fn : Fn) (first cap : Array Value) (w : World), (Instr.makeFunc fn first cap).run Try.prog w = .ok (.func fn first cap) w := fun _ _ _ _ => rfl
  obtain ⟨b, hb⟩ : ∃ b, w.heap.size = b := ⟨_, rfl⟩
  have z1 : (w.alloc (.cells (iar 101 (sqC n f)) 52)).heap.size = b + 1 := by rw [World.size_alloc, hb]
  have b1 : Below b w (w.alloc (.cells (iar 101 (sqC n f)) 52)) := (Below.refl _ _).alloc (by omega) _
  have A1 : SqAt (w.alloc (.cells (iar 101 (sqC n f)) 52)) b n f := by unfold SqAt Ia; rw [← hb]; exact heap_alloc_new _ _
  obtain ⟨w1, hw1⟩ : ∃ w1, w.alloc (.cells (iar 101 (sqC n f)) 52) = w1 := ⟨_, rfl⟩
  rw [hw1] at z1 b1 A1
  have b2 : Below b w (w1.alloc (.cells Try.zeroCells52 52)) := b1.alloc (by omega) _
  have A2 : SqAt (w1.alloc (.cells Try.zeroCells52 52)) b n f := (heap_alloc_old _ _ (by omega)).trans A1
  have Z2 : SqAt (w1.alloc (.cells Try.zeroCells52 52)) (b + 1) 0 (fun _ _ => 0) := by unfold SqAt Ia; rw [← sqC_zeros, ← z1, heap_alloc_new, zeroSq]
  have z2 : (w1.alloc (.cells Try.zeroCells52 52)).heap.size = b + 2 := by rw [World.size_alloc, z1]
  obtain ⟨w2, hw2⟩ : ∃ w2, w1.alloc (.cells Try.zeroCells52 52) = w2 := ⟨_, rfl⟩
  rw [hw2] at b2 A2 Z2 z2
  have HM := Lib.hid (imoved n hn w2 f (.func (.func 69) #[] #[.pointer (some ⟨b, 0, none⟩)]) (redMv1 f) (fun x y hx hy => by have := hf 0 y (by omega) hy; unfold redMv1; simp only; omega)
    ⟨_, _, _, rfl, enters_of Try.func69 (by kernel_rfl) rfl, fun W x y hW hx hy => by
      have r1 : (((redMv1 f x y).2.1 : Nat) : Int) = f 0 y := by have := hf 0 y (by omega) hy; unfold redMv1; simp only; omega
      rw [r1]
      exact iredc1 W b n f (SqAt.below A2 hW (by omega)) x y (f x y) (by omega) (by omega)⟩)
  have HX := Lib.hid A2
  have HZ := Lib.hid Z2
  have HB2 := Lib.hid b2
  have HB := Lib.hid hb
  have OI := ordF_in h1 hf
  have EO : movSt n (redMv1 f) n = ordF n f := rfl
  have ER : redF n f = movSt n (redMv2 (ordF n f)) n := rfl
  rw [EO] at HM
  rw [ER]
  obtain ⟨o, ho⟩ : ∃ o, ordF n f = o := ⟨_, rfl⟩
  rw [ho] at HM OI ⊢
  have HO := Lib.hid OI
  clear A1 A2 Z2 b1 b2 EO ER OI ho hf
  go_enter Try.func48, Try.ntmps48
  go_wp2_with (refine wpList_load_row rfl 52 (.tmp 1) rfl _ rfl _ _ _ _ HX.out Try.underlying52 rfl (by rw [iar_size]; exact Try.infoSq) ?_)
  refine HM.out.mono ?_
  rintro e w3 ⟨rfl, b3⟩
  have s3 := b3.size
  have B3 : Hid (Below b w w3) := HB2.out.trans (b3.mono (by omega))
  have Z3 := SqAt.below HZ.out b3 (by omega)
  have st := stores_newSq w3 (sqC n o)
  have A4 : SqAt (w3.alloc (.cells (iar 101 (sqC n o)) 52)) w3.heap.size n o := heap_alloc_new _ _
  have b4 : Below b w (w3.alloc (.cells (iar 101 (sqC n o)) 52)) := B3.out.alloc (by omega) _
  have Z4 : SqAt (w3.alloc (.cells (iar 101 (sqC n o)) 52)) (b + 1) 0 (fun _ _ => 0) := (heap_alloc_old _ _ (by omega)).trans Z3
  have z4 : (w3.alloc (.cells (iar 101 (sqC n o)) 52)).heap.size = w3.heap.size + 1 := World.size_alloc _ _
  obtain ⟨w4, hw4⟩ : ∃ w4, w3.alloc (.cells (iar 101 (sqC n o)) 52) = w4 := ⟨_, rfl⟩
  obtain ⟨q, hq⟩ : ∃ q, w3.heap.size = q := ⟨_, rfl⟩
  rw [hw4] at st A4 b4 Z4 z4
  rw [hq] at st A4 z4 s3
  have HM2 := Lib.hid (imoved n hn w4 o (.func (.func 70) #[] #[.pointer (some ⟨q, 0, none⟩)]) (redMv2 o) (fun x y hx hy => by have := HO.out x 0; unfold redMv2; simp only; omega)
    ⟨_, _, _, rfl, enters_of Try.func70 (by kernel_rfl) rfl, fun W x y hW hx hy => by
      have r1 : (((redMv2 o x y).1 : Nat) : Int) = o x 0 := by have := HO.out x 0; unfold redMv2; simp only; omega
      rw [r1]
      exact iredc2 W q n o (SqAt.below A4 hW (by omega)) x y (o x y) (by omega) (by omega)⟩)
  have X4 := Lib.hid A4
  have B4 := Lib.hid b4
  have ZZ := Lib.hid Z4
  clear A4 b4 Z4 Z3 b3 HM HX
  go_wp2_with (refine wpList_load_row rfl 52 (.tmp 3) rfl _ rfl _ _ _ _ X4.out Try.underlying52 rfl (by rw [iar_size]; exact Try.infoSq) ?_)
  refine HM2.out.mono ?_
  rintro e w5 ⟨rfl, b5⟩
  have Z5 := SqAt.below ZZ.out b5 (by omega)
  have B5 : Below b w w5 := B4.out.trans (b5.mono (by omega))
  have st5 := Ia.stores (d := sqC n (movSt n (redMv2 o) n)) Z5
  have P2 := Lib.hid (SqAt.row (m := n) (k := movSt n (redMv2 o) n) Z5)
  have P3 : Hid (Below b w (w5.setRow (b + 1) (iar 101 (sqC n (movSt n (redMv2 o) n))))) := below_row B5 (by omega) _
  clear b5 Z5 B5 HM2
  go_wp2
  refine bodyPost_ret (v := .agg (iar 101 (sqC n (movSt n (redMv2 o) n)))) (results_cell_row Try.results48 _ _ _ _ _ _ _ rfl P2.out Try.underlying52 rfl (by rw [iar_size]; exact Try.infoSq)) rfl ⟨rfl, by rw [HB.out]; exact P3.out⟩
end Go.Proofs.Ytekikbkafbpkkaa
