/- The program's moved: the cells of a square moved one by one. -/
import Derived.Test.YtigcgpgkpkoodabLsq
namespace Go.Proofs.Ytigcgpgkpkoodab
open Go.RowKit Go.Shelf
set_option linter.unusedVariables false

/-- A cell as a value. -/
def cellV (x y : Nat) (z : Int) : Value := .agg #[.int .i64 x, .int .i64 y, .int .i64 z]
/-- What a function on cells answers, reading what lies below B. -/
def MoveOk (w : World) (B : Nat) (s : Value) (n : Nat) (f : Nat → Nat → Int) (mv : Nat → Nat → Nat × Nat × Int) : Prop :=
  ∃ fn fs cs, s = .func (.func fn) fs cs ∧ (∀ args W, (callFunc fn args).run Try.prog W = .ok (.enter fn args) W) ∧ ∀ (W : World) (x y : Nat), Below B w W → x < n → y < n → Calls Try.prog fn (fs.push (.agg #[.int .i64 x, .int .i64 y, .int .i64 (f x y)]) ++ cs) W fun e W' => e = .returned (.agg #[.int .i64 (mv x y).1, .int .i64 (mv x y).2.1, .int .i64 (mv x y).2.2]) ∧ Below W.heap.size W W'

set_option maxRecDepth 100000 in
set_option maxHeartbeats 8000000 in
theorem imoved (n : Nat) (hn : n ≤ 10) (w : World) (f : Nat → Nat → Int) (s : Value) (mv : Nat → Nat → Nat × Nat × Int) (ht : ∀ x y, x < n → y < n → (mv x y).1 < n ∧ (mv x y).2.1 < n) (hs : MoveOk w w.heap.size s n f mv) :
    Calls Try.prog 36 #[.agg (iar 101 (sqC n f)), s] w fun e w' => e = .returned (.agg (iar 101 (sqC n (movSt n mv n)))) ∧ Below w.heap.size w w' := by
  obtain ⟨fn, fs, cs, rfl, hcf, hc⟩ := hs
  have HS := Lib.hid hc
  have HT := Lib.hid ht
  obtain ⟨b, hb⟩ : ∃ b, w.heap.size = b := ⟨_, rfl⟩
  have z1 : (w.alloc (.cells (iar 101 (sqC n f)) 42)).heap.size = b + 1 := by rw [World.size_alloc, hb]
  have b1 : Below b w (w.alloc (.cells (iar 101 (sqC n f)) 42)) := (Below.refl _ _).alloc (by omega) _
  have A1 : SqAt (w.alloc (.cells (iar 101 (sqC n f)) 42)) b n f := by unfold SqAt Ia; rw [← hb]; exact heap_alloc_new _ _
  obtain ⟨w1, hw1⟩ : ∃ w1, w.alloc (.cells (iar 101 (sqC n f)) 42) = w1 := ⟨_, rfl⟩
  rw [hw1] at z1 b1 A1
  have b2 : Below b w (w1.alloc (.cells Try.zeroCells42 42)) := b1.alloc (by omega) _
  have A2 : SqAt (w1.alloc (.cells Try.zeroCells42 42)) b n f := (heap_alloc_old _ _ (by omega)).trans A1
  have Z2 : SqAt (w1.alloc (.cells Try.zeroCells42 42)) (b + 1) 0 (fun _ _ => 0) := by unfold SqAt Ia; rw [← sqC_zeros, ← z1, heap_alloc_new, zeroSq]
  have z2 : (w1.alloc (.cells Try.zeroCells42 42)).heap.size = b + 2 := by rw [World.size_alloc, z1]
  obtain ⟨w2, hw2⟩ : ∃ w2, w1.alloc (.cells Try.zeroCells42 42) = w2 := ⟨_, rfl⟩
  rw [hw2] at b2 A2 Z2 z2
  have or2 := SqAt.order A2
  have st := stores_newSq w2 (sqC n (fun _ _ => 0))
  rw [← sq_build, z2] at st
  have A3 : SqAt (w2.alloc (.cells (iar 101 (sqC n (fun _ _ => 0))) 42)) b n f := (heap_alloc_old _ _ (by omega)).trans A2
  have Z3 : SqAt (w2.alloc (.cells (iar 101 (sqC n (fun _ _ => 0))) 42)) (b + 1) 0 (fun _ _ => 0) := (heap_alloc_old _ _ (by omega)).trans Z2
  have R3 : SqAt (w2.alloc (.cells (iar 101 (sqC n (fun _ _ => 0))) 42)) (b + 2) n (movSt n mv 0) := by unfold SqAt Ia; rw [← z2]; exact heap_alloc_new _ _
  have b3 : Below b w (w2.alloc (.cells (iar 101 (sqC n (fun _ _ => 0))) 42)) := b2.alloc (by omega) _
  have z3 : (w2.alloc (.cells (iar 101 (sqC n (fun _ _ => 0))) 42)).heap.size = b + 3 := by rw [World.size_alloc, z2]
  obtain ⟨w3, hw3⟩ : ∃ w3, w2.alloc (.cells (iar 101 (sqC n (fun _ _ => 0))) 42) = w3 := ⟨_, rfl⟩
  rw [hw3] at st A3 Z3 R3 b3 z3
  have or3 := SqAt.order A3
  rw [hb] at HS ⊢
  have HB := Lib.hid hb
  have HA := Lib.hid A3
  have HZ := Lib.hid Z3
  have HR := Lib.hid R3
  have HBl := Lib.hid b3
  have hz0 : b + 3 ≤ w3.heap.size := by omega
  have MS : Hid (∀ x, movSt n mv (x + 1) = rowSt mv x (movSt n mv x) n) := fun x => rfl
  have RS : Hid (∀ x f y, rowSt mv x f (y + 1) = upd2 (rowSt mv x f y) (mv x y).1 (mv x y).2.1 (mv x y).2.2) := fun x f y => rfl
  have R0 : Hid (∀ x f, rowSt mv x f 0 = f) := fun x f => rfl
  clear hc ht A1 A2 A3 Z2 Z3 R3 b1 b2 b3
  go_enter Try.func36, Try.ntmps36
  go_wp2
  clear st hw1 hw2 hw3 or2 or3
  go_loopw [14] (fun i wr => ∃ x : Nat, x ≤ n ∧ i = .int .i64 x ∧ Hid (SqAt wr b n f) ∧ Hid (SqAt wr (b + 1) 0 (fun _ _ => 0)) ∧ Hid (SqAt wr (b + 2) n (movSt n mv x)) ∧ Hid (Below b w wr) ∧ b + 3 ≤ wr.heap.size) (fun i _ => n - (intOf i).toNat)
  case atStart => exact ⟨0, by omega, rfl, HA, HZ, HR, HBl, hz0⟩
  case round =>
    obtain ⟨x, hx, rfl, hA, hZ, hR, hBl, hz⟩ := hrel
    by_cases c : x < n
    · have k1 : decide (x < n) = true := by simpa using c
      have k1' : decide ((x : Int) < (n : Int)) = true := decide_eq_true (by omega)
      have w3 := IntWalk.i64_in ((x : Int) + 1) (by omega)
      have x0 : (0 : Int) ≤ (x : Int) := by omega
      have x1 : (x : Int) < 10 := by omega
      obtain ⟨wq, rfl⟩ : ∃ wq : World, wq = wr := ⟨_, rfl⟩
      have orq := SqAt.order hA.out
      go_wp2
      clear orq
      go_loopw [19] (fun i wr => ∃ y : Nat, y ≤ n ∧ i = .int .i64 y ∧ Hid (SqAt wr b n f) ∧ Hid (SqAt wr (b + 1) 0 (fun _ _ => 0)) ∧ Hid (SqAt wr (b + 2) n (rowSt mv x (movSt n mv x) y)) ∧ Hid (Below b w wr) ∧ b + 3 ≤ wr.heap.size) (fun i _ => n - (intOf i).toNat)
      case atStart => exact ⟨0, by omega, rfl, hA, hZ, by unfold Hid; rw [R0.out]; exact hR.out, hBl, hz⟩
      case round =>
        obtain ⟨y, hy, rfl, hA2, hZ2, hR2, hBl2, hz2⟩ := hrel
        by_cases c2 : y < n
        · have k2 : decide (y < n) = true := by simpa using c2
          have k2' : decide ((y : Int) < (n : Int)) = true := decide_eq_true (by omega)
          have w4 := IntWalk.i64_in ((y : Int) + 1) (by omega)
          have y0 : (0 : Int) ≤ (y : Int) := by omega
          have y1 : (y : Int) < 10 := by omega
          have HC := Lib.hid (HS.out wr x y hBl2.out c c2)
          obtain ⟨t1, t2⟩ := HT.out x y c c2
          have rs := RS.out x (movSt n mv x) y
          obtain ⟨⟨p, q, z⟩, hpq⟩ : ∃ pq, mv x y = pq := ⟨_, rfl⟩
          rw [hpq] at HC t1 t2 rs
          simp only at HC t1 t2 rs
          have RSS := Lib.hid rs
          have cxy := Ia.cell hA2.out (1 + x * 10 + y) (by omega)
          rw [sqC_at _ _ (by omega)] at cxy
          obtain ⟨v, hv⟩ : ∃ v, f x y = v := ⟨_, rfl⟩
          rw [hv] at cxy HC
          have p0 : (0 : Int) ≤ (p : Int) := by omega
          have p1 : (p : Int) < 10 := by omega
          have q0 : (0 : Int) ≤ (q : Int) := by omega
          have q1 : (q : Int) < 10 := by omega
          clear rs hpq hv
          go_wp2_with fail
          refine HC.out.mono ?_
          rintro e w5 ⟨rfl, b5⟩
          have s5 := b5.size
          have A5 := Lib.hid (SqAt.below hA2.out b5 (by omega))
          have Z5 := Lib.hid (SqAt.below hZ2.out b5 (by omega))
          have R5 := Lib.hid (SqAt.below hR2.out b5 (by omega))
          have B5 : Hid (Below b w w5) := hBl2.out.trans (b5.mono (by omega))
          have z5 : b + 3 ≤ w5.heap.size := by omega
          clear b5 HC cxy
          obtain ⟨g, hg⟩ : ∃ g, w5.heap.size = g := ⟨_, rfl⟩
          have T6 : (w5.alloc (.cells #[.int .i64 p, .int .i64 q, .int .i64 z] 53)).heap[g]? = some (.cells #[.int .i64 p, .int .i64 q, .int .i64 z] 53 (0, 0)) := by rw [← hg]; exact heap_alloc_new _ _
          have A6 : SqAt (w5.alloc (.cells #[.int .i64 p, .int .i64 q, .int .i64 z] 53)) b n f := (heap_alloc_old _ _ (by omega)).trans A5.out
          have Z6 : SqAt (w5.alloc (.cells #[.int .i64 p, .int .i64 q, .int .i64 z] 53)) (b + 1) 0 (fun _ _ => 0) := (heap_alloc_old _ _ (by omega)).trans Z5.out
          have R6 : SqAt (w5.alloc (.cells #[.int .i64 p, .int .i64 q, .int .i64 z] 53)) (b + 2) n (rowSt mv x (movSt n mv x) y) := (heap_alloc_old _ _ (by omega)).trans R5.out
          have B6 : Below b w (w5.alloc (.cells #[.int .i64 p, .int .i64 q, .int .i64 z] 53)) := B5.out.alloc (by omega) _
          have z6 : b + 3 ≤ (w5.alloc (.cells #[.int .i64 p, .int .i64 q, .int .i64 z] 53)).heap.size := by rw [World.size_alloc]; omega
          go_wp2
          obtain ⟨w6, hw6⟩ : ∃ w6, w5.alloc (.cells #[.int .i64 p, .int .i64 q, .int .i64 z] 53) = w6 := ⟨_, rfl⟩
          rw [hw6] at T6 A6 Z6 R6 B6 z6
          rw [hw6]
          obtain ⟨wd, hwd⟩ : ∃ wd, w6.drew = wd := ⟨_, rfl⟩
          have T7 : wd.heap[g]? = some (.cells #[.int .i64 p, .int .i64 q, .int .i64 z] 53 (0, 0)) := by rw [← hwd]; exact T6
          have A7 : SqAt wd b n f := by rw [← hwd]; exact A6
          have Z7 : SqAt wd (b + 1) 0 (fun _ _ => 0) := by rw [← hwd]; exact Z6
          have R7 : SqAt wd (b + 2) n (rowSt mv x (movSt n mv x) y) := by rw [← hwd]; exact R6
          have B7 : Below b w wd := by rw [← hwd]; exact B6.drew
          have z7 : b + 3 ≤ wd.heap.size := by rw [← hwd]; exact z6
          have e1 : wd.cell? ⟨g, 0, none⟩ = some (.int .i64 p) := by rw [cell_of_row wd g 0 _ _ _ T7]; rfl
          have e2 : wd.cell? ⟨g, 1, none⟩ = some (.int .i64 q) := by rw [cell_of_row wd g 1 _ _ _ T7]; rfl
          have e3 : wd.cell? ⟨g, 2, none⟩ = some (.int .i64 z) := by rw [cell_of_row wd g 2 _ _ _ T7]; rfl
          have d1 := Ia.cell R7 (1 + p * 10 + q) (by omega)
          have d2 := Ia.frozen R7 (1 + p * 10 + q)
          have S1 : Hid (SqAt (wd.setCell ⟨b + 2, 1 + p * 10 + q, none⟩ (.int .i64 z)) b n f) := (Below.heap_setCell wd ⟨b + 2, 1 + p * 10 + q, none⟩ _ b (by simp only; omega)).trans A7
          have S2 : Hid (SqAt (wd.setCell ⟨b + 2, 1 + p * 10 + q, none⟩ (.int .i64 z)) (b + 1) 0 (fun _ _ => 0)) := (Below.heap_setCell wd ⟨b + 2, 1 + p * 10 + q, none⟩ _ (b + 1) (by simp only; omega)).trans Z7
          have S3 : Hid (SqAt (wd.setCell ⟨b + 2, 1 + p * 10 + q, none⟩ (.int .i64 z)) (b + 2) n (rowSt mv x (movSt n mv x) (y + 1))) := by
            have := Ia.set R7 (1 + p * 10 + q) z
            rw [sqC_upd _ _ _ (by omega), ← RSS.out] at this
            exact this
          have S4 : Hid (Below b w (wd.setCell ⟨b + 2, 1 + p * 10 + q, none⟩ (.int .i64 z))) := B7.setCell (p := ⟨b + 2, 1 + p * 10 + q, none⟩) (by simp only; omega) _
          have S5 : b + 3 ≤ (wd.setCell ⟨b + 2, 1 + p * 10 + q, none⟩ (.int .i64 z)).heap.size := by simpa [World.setCell] using z7
          clear T6 A6 Z6 R6 B6 z6 T7 A7 Z7 R7 B7 hw6
          refine wp_region_still_tail 9 (by kernel_rfl) (by kernel_rfl) ?_
          simp only [List.take_succ_cons, List.take_zero, List.drop_succ_cons, List.drop_zero]
          change wpStill _ _ w6.drew _ _ _
          rw [hwd]
          repeat still_step
          refine wpStill_nil ?_
          change wpList _ _ _ _ _ w6.drew
          rw [hwd]
          clear hwd
          go_wp2
          go_roundw
          case rel => exact ⟨y + 1, by omega, by go_num, S1, S2, S3, S4, S5⟩
          case measure => simp [intOf]; omega
        · have k2 : decide (y < n) = false := by simpa using c2
          have k2' : decide ((y : Int) < (n : Int)) = false := decide_eq_false (by omega)
          obtain rfl : y = n := by omega
          go_wp2
          go_roundw
          case rel => exact ⟨x + 1, by omega, by go_num, hA2, hZ2, by unfold Hid; rw [MS.out]; exact hR2.out, hBl2, hz2⟩
          case measure => simp [intOf]; omega
    · have k1 : decide (x < n) = false := by simpa using c
      have k1' : decide ((x : Int) < (n : Int)) = false := decide_eq_false (by omega)
      obtain rfl : x = n := by omega
      have P2 : Hid (SqAt (wr.setRow (b + 1) (iar 101 (sqC x (movSt x mv x)))) (b + 1) x (movSt x mv x)) := SqAt.row hZ.out
      go_upto_region 12 with fail
      refine wp_region_list ?_
      refine wpList_load_row rfl 42 (.tmp 5) rfl _ rfl _ _ _ _ hR.out Try.underlying42 rfl (by rw [iar_size]; exact Try.infoSq) ?_
      refine wpList_store_row rfl 42 (.tmp 4) (.tmp 44) rfl _ (iar 101 (sqC x (movSt x mv x))) rfl rfl _ _ hZ.out (by rw [iar_size]; exact Try.infoSq) (by rw [iar_size, iar_size]) (iar_one _ _) ?_
      go_wp2
      refine bodyPost_ret (v := .agg (iar 101 (sqC x (movSt x mv x)))) (results_cell_row Try.results36 _ _ _ _ _ _ _ rfl P2.out Try.underlying42 rfl (by rw [iar_size]; exact Try.infoSq)) rfl ⟨rfl, ?_⟩
      exact below_row hBl.out (by omega) _
end Go.Proofs.Ytigcgpgkpkoodab
