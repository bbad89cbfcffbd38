/- The program's squares: an array of symbols behind an order; filledSquare. -/
import Derived.Test.YtanfodbpgpfjmabDoorHp
import Derived.Test.YtanfodbpgpfjmabDoorIa
import Derived.StillTailTactics
import Derived.Deep.WholeRow
import Derived.Deep.Cut
namespace Go.Proofs.YtanfodbpgpfjmabDoor
open Go.RowKit
set_option linter.unusedVariables false

/-- The cells of a square. -/
def sqC (n : Nat) (f : Nat → Nat → Int) : Nat → Int := fun i => if i = 0 then (n : Int) else f ((i - 1) / 10) ((i - 1) % 10)
theorem sqC_zero (n : Nat) (f : Nat → Nat → Int) : sqC n f 0 = n := rfl
theorem sqC_at (n : Nat) (f : Nat → Nat → Int) {x y : Nat} (h : y < 10) : sqC n f (1 + x * 10 + y) = f x y := by
  unfold sqC
  rw [if_neg (by omega), show (1 + x * 10 + y - 1) / 10 = x by omega, show (1 + x * 10 + y - 1) % 10 = y by omega]
theorem sqC_upd (n : Nat) (f : Nat → Nat → Int) {x y : Nat} (v : Int) (h : y < 10) : updI (sqC n f) (1 + x * 10 + y) v = sqC n (upd2 f x y v) := by
  funext i
  unfold updI
  by_cases e : i = 1 + x * 10 + y
  · rw [if_pos e, e, sqC_at n _ h]; unfold upd2; rw [if_pos ⟨rfl, rfl⟩]
  · rw [if_neg e]
    unfold sqC
    by_cases z : i = 0
    · rw [if_pos z, if_pos z]
    · rw [if_neg z, if_neg z]
      unfold upd2
      rw [if_neg (by omega)]
/-- A square as a value. -/
def sqV (n : Nat) (f : Nat → Nat → Int) : Value := .agg (iar 101 (sqC n f))
/-- What a function on rows and columns answers, reading what lies below B. -/
def SymOk (w : World) (B : Nat) (s : Value) (n : Nat) (f : Nat → Nat → Int) : Prop :=
  ∃ fn fs cs, s = .func (.func fn) fs cs ∧ (∀ args W, (callFunc fn args).run Tryd.prog W = .ok (.enter fn args) W) ∧ ∀ (W : World) (x y : Nat), Below B w W → x < n → y < n → Calls Tryd.prog fn (fs ++ (#[.int .i64 x, .int .i64 y] ++ cs)) W fun e W' => e = .returned (.int .i64 (f x y)) ∧ W' = W

theorem Tryd.infoSq : (Tryd.prog.info? 60).map (·.size) = some 101 := by kernel_rfl
theorem zeroSq : Tryd.zeroCells60 = iar 101 (fun _ => 0) := by kernel_rfl
theorem sqC_zeros : (fun _ => (0 : Int)) = sqC 0 (fun _ _ => 0) := by
  funext i
  unfold sqC
  split <;> rfl
/-- A block that holds a square. -/
def SqAt (w : World) (g : Nat) (n : Nat) (f : Nat → Nat → Int) : Prop := Ia w 60 g 101 (sqC n f)
theorem Ia.loads {w : World} {g : Nat} {c : Nat → Int} (h : Ia w 60 g 101 c) : (loadCellsFrom ⟨g, 0, none⟩ 0 101 #[]).run Tryd.prog w = .ok (iar 101 c) w := by
  have := run_loadCells_list (P := Tryd.prog) w ⟨g, 0, none⟩ (iar 101 c).toList (fun j v hv => by
    have hadd : (⟨g, 0, none⟩ : Addr).add j = ⟨g, j, none⟩ := by unfold Addr.add; split <;> simp_all
    rw [hadd, cell_of_row w g j _ _ _ h]
    simpa using hv)
  have e : (iar 101 c).toList.length = 101 := by rw [Array.length_toList, iar_size]
  rw [e] at this
  simpa [loadCells] using this
theorem Ia.stores {w : World} {g : Nat} {c d : Nat → Int} (h : Ia w 60 g 101 c) : (storeCells ⟨g, 0, none⟩ (iar 101 d).toList 0).run Tryd.prog w = .ok () (w.setRow g (iar 101 d)) := by
  have := run_storeVar_row (P := Tryd.prog) w g 60 60 (iar 101 c) (iar 101 d) h (by rw [iar_size]; exact Tryd.infoSq) (by rw [iar_size, iar_size]) (iar_one 101 d)
  have hi := Tryd.infoSq
  cases hq : Tryd.prog.info? 60 with
  | none => simp [hq] at hi
  | some i =>
    have hs : i.size = 101 := by simpa [hq] using hi
    simpa [storeVar, sizeOf, typeInfo, hq, Value.cells, hs, iar_size] using this
theorem stores_newSq (W : World) (d : Nat → Int) : (storeCells ⟨W.heap.size, 0, none⟩ (iar 101 d).toList 0).run Tryd.prog (W.alloc (.cells Tryd.zeroCells60 60)) = .ok () (W.alloc (.cells (iar 101 d) 60)) :=
  run_storeCells_new W 60 _ (iar 101 d) (by rw [iar_size]; exact Tryd.infoSq) (by rw [iar_size, zeroSq, iar_size]) (iar_one 101 d)
theorem sq_build (n : Nat) : Tryd.zeroCells60.toList.set 0 (.int .i64 n) = (iar 101 (sqC n (fun _ _ => 0))).toList := by
  rw [zeroSq, ← Array.toList_setIfInBounds, iar_set]
  congr 1

set_option maxRecDepth 100000 in
set_option maxHeartbeats 4000000 in
theorem ifill (n : Nat) (hn : n ≤ 10) (w : World) (s : Value) (f : Nat → Nat → Int) (hs : SymOk w w.heap.size s n f) :
    Calls Tryd.prog 31 #[.int .i64 n, s] w fun e w' => e = .returned (sqV n (sqF n f)) ∧ Below w.heap.size w w' := by
  obtain ⟨fn, fs, cs, rfl, hcf, hc⟩ := hs
  have HS := Lib.hid hc
  obtain ⟨b, hb⟩ : ∃ b, w.heap.size = b := ⟨_, rfl⟩
  obtain ⟨w1, hw1⟩ : ∃ w1, w.alloc (.cells Tryd.zeroCells60 60) = w1 := ⟨_, rfl⟩
  have b1 : Below b w w1 := by rw [← hw1]; exact (Below.refl _ _).alloc (by omega) _
  have z1 : w1.heap.size = b + 1 := by rw [← hw1, World.size_alloc, hb]
  have A1 : SqAt w1 b 0 (fun _ _ => 0) := by unfold SqAt Ia; rw [← sqC_zeros, ← hw1, ← hb, heap_alloc_new, zeroSq]
  have st := stores_newSq w1 (sqC n (fun _ _ => 0))
  rw [← sq_build, z1] at st
  have A2 : SqAt (w1.alloc (.cells (iar 101 (sqC n (fun _ _ => 0))) 60)) (b + 1) n (fun _ _ => 0) := by unfold SqAt Ia; rw [← z1]; exact heap_alloc_new _ _
  have b2 : Below b w (w1.alloc (.cells (iar 101 (sqC n (fun _ _ => 0))) 60)) := b1.alloc (by omega) _
  have A3 : SqAt (w1.alloc (.cells (iar 101 (sqC n (fun _ _ => 0))) 60)) b 0 (fun _ _ => 0) := (heap_alloc_old _ _ (by omega)).trans A1
  obtain ⟨w2, hw2⟩ : ∃ w2, w1.alloc (.cells (iar 101 (sqC n (fun _ _ => 0))) 60) = w2 := ⟨_, rfl⟩
  rw [hw2] at st A2 b2 A3
  rw [hb] at HS ⊢
  rw [← fillF_zero n f] at A2
  have HB := Lib.hid hb
  have H2 := Lib.hid A2
  have H3 := Lib.hid A3
  have HB2 := Lib.hid b2
  have FS : Hid (∀ x y, y < n → upd2 (fillF n f x y) x y (f x y) = fillF n f x (y + 1)) := fun x y h => fillF_step f h
  have FR : Hid (∀ x, fillF n f x n = fillF n f (x + 1) 0) := fun x => fillF_row n f x
  have FA : Hid (fillF n f n 0 = sqF n f) := fillF_all n f
  clear hc A1 A2 A3 b1 b2
  go_enter Tryd.func31, Tryd.ntmps31
  go_wp2
  clear st hw1 hw2
  go_loopw [11] (fun i wr => ∃ x : Nat, x ≤ n ∧ i = .int .i64 x ∧ Hid (SqAt wr (b + 1) n (fillF n f x 0)) ∧ Hid (SqAt wr b 0 (fun _ _ => 0)) ∧ Hid (Below b w wr)) (fun i _ => n - (intOf i).toNat)
  case atStart => exact ⟨0, by omega, rfl, H2, H3, HB2⟩
  case round =>
    obtain ⟨x, hx, rfl, hA, hZ, hBl⟩ := hrel
    by_cases c : x < n
    · have k1 : decide (x < n) = true := by simpa using c
      have k1' : decide ((x : Int) < (n : Int)) = true := decide_eq_true (by omega)
      have w3 := IntWalk.i64_in ((x : Int) + 1) (by omega)
      have x0 : (0 : Int) ≤ (x : Int) := by omega
      have x1 : (x : Int) < 10 := by omega
      obtain ⟨wq, rfl⟩ : ∃ wq : World, wq = wr := ⟨_, rfl⟩
      go_wp2
      go_loopw [15] (fun i wr => ∃ y : Nat, y ≤ n ∧ i = .int .i64 y ∧ Hid (SqAt wr (b + 1) n (fillF n f x y)) ∧ Hid (SqAt wr b 0 (fun _ _ => 0)) ∧ Hid (Below b w wr)) (fun i _ => n - (intOf i).toNat)
      case atStart => exact ⟨0, by omega, rfl, hA, hZ, hBl⟩
      case round =>
        obtain ⟨y, hy, rfl, hA2, hZ2, hBl2⟩ := hrel
        by_cases c2 : y < n
        · have k2 : decide (y < n) = true := by simpa using c2
          have k2' : decide ((y : Int) < (n : Int)) = true := decide_eq_true (by omega)
          have w4 := IntWalk.i64_in ((y : Int) + 1) (by omega)
          have y0 : (0 : Int) ≤ (y : Int) := by omega
          have y1 : (y : Int) < 10 := by omega
          have HC := Lib.hid (fun W h => HS.out W x y h c c2)
          go_wp2
          refine wp_region_still_tail 9 (by kernel_rfl) (by kernel_rfl) ?_
          simp only [List.take_succ_cons, List.take_zero, List.drop_succ_cons, List.drop_zero]
          still_step
          still_step
          still_step
          still_step
          still_step
          still_call (HC.out _ (hBl2.out.drew))
          repeat still_step
          refine wpStill_nil ?_
          change wpList _ _ _ _ _ wr.drew
          obtain ⟨wd, hwd⟩ : ∃ wd, wr.drew = wd := ⟨_, rfl⟩
          have D1 : SqAt wd (b + 1) n (fillF n f x y) := by rw [← hwd]; exact hA2.out
          have D2 : SqAt wd b 0 (fun _ _ => 0) := by rw [← hwd]; exact hZ2.out
          have D3 : Below b w wd := by rw [← hwd]; exact hBl2.out.drew
          rw [hwd]
          have cell := Ia.cell D1 (1 + x * 10 + y) (by omega)
          have fz := Ia.frozen D1 (1 + x * 10 + y)
          have S1 : Hid (SqAt (wd.setCell ⟨b + 1, 1 + x * 10 + y, none⟩ (.int .i64 (f x y))) (b + 1) n (fillF n f x (y + 1))) := by
            have := Ia.set D1 (1 + x * 10 + y) (f x y)
            rw [sqC_upd _ _ _ (by omega), FS.out x y c2] at this
            exact this
          have S2 : Hid (SqAt (wd.setCell ⟨b + 1, 1 + x * 10 + y, none⟩ (.int .i64 (f x y))) b 0 (fun _ _ => 0)) := (Below.heap_setCell wd ⟨b + 1, 1 + x * 10 + y, none⟩ _ b (by simp only; omega)).trans D2
          have S3 : Hid (Below b w (wd.setCell ⟨b + 1, 1 + x * 10 + y, none⟩ (.int .i64 (f x y)))) := D3.setCell (p := ⟨b + 1, 1 + x * 10 + y, none⟩) (by simp only; omega) _
          clear hwd D1 D2 D3
          go_wp2
          go_roundw
          case rel => exact ⟨y + 1, by omega, by go_num, S1, S2, S3⟩
          case measure => simp [intOf]; omega
        · have k2 : decide (y < n) = false := by simpa using c2
          have k2' : decide ((y : Int) < (n : Int)) = false := decide_eq_false (by omega)
          obtain rfl : y = n := by omega
          go_wp2
          go_roundw
          case rel => exact ⟨x + 1, by omega, by go_num, by unfold Hid; rw [← FR.out]; exact hA2.out, hZ2, hBl2⟩
          case measure => simp [intOf]; omega
    · have k1 : decide (x < n) = false := by simpa using c
      have k1' : decide ((x : Int) < (n : Int)) = false := decide_eq_false (by omega)
      obtain rfl : x = n := by omega
      have hA' := hA.out
      rw [FA.out] at hA'
      have HA := Lib.hid hA'
      have P2 : Hid (SqAt (wr.setRow b (iar 101 (sqC x (sqF x f)))) b x (sqF x f)) := setRow_heap _ _ _ _ _ _ hZ.out
      clear hA'
      go_upto_region 11 with fail
      refine wp_region_list ?_
      refine wpList_load_row rfl 60 (.tmp 5) rfl _ rfl _ _ _ _ HA.out Tryd.underlying60 rfl (by rw [iar_size]; exact Tryd.infoSq) ?_
      refine wpList_store_row rfl 60 (.tmp 4) (.tmp 29) rfl _ (iar 101 (sqC x (sqF x f))) rfl rfl _ _ hZ.out (by rw [iar_size]; exact Tryd.infoSq) (by rw [iar_size, iar_size]) (iar_one _ _) ?_
      go_wp2
      refine bodyPost_ret (v := sqV x (sqF x f)) (results_cell_row Tryd.results31 _ _ _ _ _ _ _ rfl P2.out Tryd.underlying60 rfl (by rw [iar_size]; exact Tryd.infoSq)) rfl ⟨rfl, ?_⟩
      exact below_row hBl.out (Nat.le_refl _) _
end Go.Proofs.YtanfodbpgpfjmabDoor
