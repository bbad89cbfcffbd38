/- The program's squares: an array of symbols behind an order; filledSquare. -/
import Derived.Test.YtodlcjdbpibacaaZcd
import Derived.Test.YtodlcjdbpibacaaHp
import Derived.Test.YtodlcjdbpibacaaIa
import Derived.StillTailTactics
import Derived.Deep.WholeRow
import Derived.Deep.Cut
import Derived.Deep.RegionHeld3
import Derived.Shelf.Abstract
namespace Go.Proofs.Ytodlcjdbpibacaa
open Go.RowKit
set_option linter.unusedVariables false

/-- The cells of a square. -/
def sqC (n : Nat) (f : Nat → Nat → Int) : Nat → Int := fun i => if i = 0 then (n : Int) else f ((i - 1) / 10) ((i - 1) % 10)
theorem sqC_zero (n : Nat) (f : Nat → Nat → Int) : sqC n f 0 = n := rfl
theorem sqC_at (n : Nat) (f : Nat → Nat → Int) {x y : Nat} (h : y < 10) : sqC n f (1 + x * 10 + y) = f x y := by
  unfold sqC
  rw [if_neg (by omega), show (1 + x * 10 + y - 1) / 10 = x by omega, show (1 + x * 10 + y - 1) % 10 = y by omega]
theorem sqC_upd (n : Nat) (f : Nat → Nat → Int) {x y : Nat} (v : Int) (h : y < 10) : updI (sqC n f) (1 + x * 10 + y) v = sqC n (upd2 f x y v) := by
  funext i
  unfold updI
  by_cases e : i = 1 + x * 10 + y
  · rw [if_pos e, e, sqC_at n _ h]; unfold upd2; rw [if_pos ⟨rfl, rfl⟩]
  · rw [if_neg e]
    unfold sqC
    by_cases z : i = 0
    · rw [if_pos z, if_pos z]
    · rw [if_neg z, if_neg z]
      unfold upd2
      rw [if_neg (by omega)]
/-- A square as a value. -/
def sqV (n : Nat) (f : Nat → Nat → Int) : Value := .agg (iar 101 (sqC n f))
/-- What a function on rows and columns answers, reading what lies below B. -/
def SymOk (w : World) (B : Nat) (s : Value) (n : Nat) (f : Nat → Nat → Int) : Prop :=
  ∃ fn fs cs, s = .func (.func fn) fs cs ∧ (∀ args W, (callFunc fn args).run Try.prog W = .ok (.enter fn args) W) ∧ ∀ (W : World) (x y : Nat), Below B w W → x < n → y < n → Calls Try.prog fn (fs ++ (#[.int .i64 x, .int .i64 y] ++ cs)) W fun e W' => e = .returned (.int .i64 (f x y)) ∧ W' = W

theorem Try.infoSq : (Try.prog.info? 38).map (·.size) = some 101 := by kernel_rfl
theorem zeroSq : Try.zeroCells38 = iar 101 (fun _ => 0) := by kernel_rfl
theorem sqC_zeros : (fun _ => (0 : Int)) = sqC 0 (fun _ _ => 0) := by
  funext i
  unfold sqC
  split <;> rfl
/-- A block that holds a square. -/
def SqAt (w : World) (g : Nat) (n : Nat) (f : Nat → Nat → Int) : Prop := Ia w 38 g 101 (sqC n f)
theorem Ia.loads {w : World} {g : Nat} {c : Nat → Int} (h : Ia w 38 g 101 c) : (loadCellsFrom ⟨g, 0, none⟩ 0 101 #[]).run Try.prog w = .ok (iar 101 c) w := by
  have := run_loadCells_list (P := Try.prog) w ⟨g, 0, none⟩ (iar 101 c).toList (fun j v hv => by
    have hadd : (⟨g, 0, none⟩ : Addr).add j = ⟨g, j, none⟩ := by unfold Addr.add; split <;> simp_all
    rw [hadd, cell_of_row w g j _ _ _ h]
    simpa using hv)
  have e : (iar 101 c).toList.length = 101 := by rw [Array.length_toList, iar_size]
  rw [e] at this
  simpa [loadCells] using this
theorem Ia.stores {w : World} {g : Nat} {c d : Nat → Int} (h : Ia w 38 g 101 c) : (storeCells ⟨g, 0, none⟩ (iar 101 d).toList 0).run Try.prog w = .ok () (w.setRow g (iar 101 d)) := by
  have := run_storeVar_row (P := Try.prog) w g 38 38 (iar 101 c) (iar 101 d) h (by rw [iar_size]; exact Try.infoSq) (by rw [iar_size, iar_size]) (iar_one 101 d)
  have hi := Try.infoSq
  cases hq : Try.prog.info? 38 with
  | none => simp [hq] at hi
  | some i =>
    have hs : i.size = 101 := by simpa [hq] using hi
    simpa [storeVar, sizeOf, typeInfo, hq, Value.cells, hs, iar_size] using this
theorem stores_newSq (W : World) (d : Nat → Int) : (storeCells ⟨W.heap.size, 0, none⟩ (iar 101 d).toList 0).run Try.prog (W.alloc (.cells Try.zeroCells38 38)) = .ok () (W.alloc (.cells (iar 101 d) 38)) :=
  run_storeCells_new W 38 _ (iar 101 d) (by rw [iar_size]; exact Try.infoSq) (by rw [iar_size, zeroSq, iar_size]) (iar_one 101 d)
theorem sq_build (n : Nat) : Try.zeroCells38.toList.set 0 (.int .i64 n) = (iar 101 (sqC n (fun _ _ => 0))).toList := by
  rw [zeroSq, ← Array.toList_setIfInBounds, iar_set]
  congr 1

set_option maxRecDepth 100000 in
set_option maxHeartbeats 4000000 in
theorem ifill (n : Nat) (hn : n ≤ 10) (w : World) (s : Value) (f : Nat → Nat → Int) (hs : SymOk w w.heap.size s n f) :
    Calls Try.prog 27 #[.int .i64 n, s] w fun e w' => e = .returned (sqV n (sqF n f)) ∧ Below w.heap.size w w' := by
  obtain ⟨fn, fs, cs, rfl, hcf, hc⟩ := hs
  have HS := Lib.hid hc
  obtain ⟨b, hb⟩ : ∃ b, w.heap.size = b := ⟨_, rfl⟩
  obtain ⟨w1, hw1⟩ : ∃ w1, w.alloc (.cells Try.zeroCells38 38) = w1 := ⟨_, rfl⟩
  have b1 : Below b w w1 := by rw [← hw1]; exact (Below.refl _ _).alloc (by omega) _
  have z1 : w1.heap.size = b + 1 := by rw [← hw1, World.size_alloc, hb]
  have A1 : SqAt w1 b 0 (fun _ _ => 0) := by unfold SqAt Ia; rw [← sqC_zeros, ← hw1, ← hb, heap_alloc_new, zeroSq]
  have st := stores_newSq w1 (sqC n (fun _ _ => 0))
  rw [← sq_build, z1] at st
  have A2 : SqAt (w1.alloc (.cells (iar 101 (sqC n (fun _ _ => 0))) 38)) (b + 1) n (fun _ _ => 0) := by unfold SqAt Ia; rw [← z1]; exact heap_alloc_new _ _
  have b2 : Below b w (w1.alloc (.cells (iar 101 (sqC n (fun _ _ => 0))) 38)) := b1.alloc (by omega) _
  have A3 : SqAt (w1.alloc (.cells (iar 101 (sqC n (fun _ _ => 0))) 38)) b 0 (fun _ _ => 0) := (heap_alloc_old _ _ (by omega)).trans A1
  obtain ⟨w2, hw2⟩ : ∃ w2, w1.alloc (.cells (iar 101 (sqC n (fun _ _ => 0))) 38) = w2 := ⟨_, rfl⟩
  rw [hw2] at st A2 b2 A3
  rw [hb] at HS ⊢
  rw [← fillF_zero n f] at A2
  have HB := Lib.hid hb
  have H2 := Lib.hid A2
  have H3 := Lib.hid A3
  have HB2 := Lib.hid b2
  have FS : Hid (∀ x y, y < n → upd2 (fillF n f x y) x y (f x y) = fillF n f x (y + 1)) := fun x y h => fillF_step f h
  have FR : Hid (∀ x, fillF n f x n = fillF n f (x + 1) 0) := fun x => fillF_row n f x
  have FA : Hid (fillF n f n 0 = sqF n f) := fillF_all n f
  clear hc A1 A2 A3 b1 b2
  go_enter Try.func27, Try.ntmps27
  go_wp2
  clear st hw1 hw2
  go_loopw [11] (fun i wr => ∃ x : Nat, x ≤ n ∧ i = .int .i64 x ∧ Hid (SqAt wr (b + 1) n (fillF n f x 0)) ∧ Hid (SqAt wr b 0 (fun _ _ => 0)) ∧ Hid (Below b w wr)) (fun i _ => n - (intOf i).toNat)
  case atStart => exact ⟨0, by omega, rfl, H2, H3, HB2⟩
  case round =>
    obtain ⟨x, hx, rfl, hA, hZ, hBl⟩ := hrel
    by_cases c : x < n
    · have k1 : decide (x < n) = true := by simpa using c
      have k1' : decide ((x : Int) < (n : Int)) = true := decide_eq_true (by omega)
      have w3 := IntWalk.i64_in ((x : Int) + 1) (by omega)
      have x0 : (0 : Int) ≤ (x : Int) := by omega
      have x1 : (x : Int) < 10 := by omega
      obtain ⟨wq, rfl⟩ : ∃ wq : World, wq = wr := ⟨_, rfl⟩
      go_wp2
      go_loopw [15] (fun i wr => ∃ y : Nat, y ≤ n ∧ i = .int .i64 y ∧ Hid (SqAt wr (b + 1) n (fillF n f x y)) ∧ Hid (SqAt wr b 0 (fun _ _ => 0)) ∧ Hid (Below b w wr)) (fun i _ => n - (intOf i).toNat)
      case atStart => exact ⟨0, by omega, rfl, hA, hZ, hBl⟩
      case round =>
        obtain ⟨y, hy, rfl, hA2, hZ2, hBl2⟩ := hrel
        by_cases c2 : y < n
        · have k2 : decide (y < n) = true := by simpa using c2
          have k2' : decide ((y : Int) < (n : Int)) = true := decide_eq_true (by omega)
          have w4 := IntWalk.i64_in ((y : Int) + 1) (by omega)
          have y0 : (0 : Int) ≤ (y : Int) := by omega
          have y1 : (y : Int) < 10 := by omega
          have HC := Lib.hid (fun W h => HS.out W x y h c c2)
          go_wp2
          refine wp_region_still_tail 9 (by kernel_rfl) (by kernel_rfl) ?_
          simp only [List.take_succ_cons, List.take_zero, List.drop_succ_cons, List.drop_zero]
          still_step
          still_step
          still_step
          still_step
          still_step
          still_call (HC.out _ (hBl2.out.drew))
          repeat still_step
          refine wpStill_nil ?_
          change wpList _ _ _ _ _ wr.drew
          obtain ⟨wd, hwd⟩ : ∃ wd, wr.drew = wd := ⟨_, rfl⟩
          have D1 : SqAt wd (b + 1) n (fillF n f x y) := by rw [← hwd]; exact hA2.out
          have D2 : SqAt wd b 0 (fun _ _ => 0) := by rw [← hwd]; exact hZ2.out
          have D3 : Below b w wd := by rw [← hwd]; exact hBl2.out.drew
          rw [hwd]
          have cell := Ia.cell D1 (1 + x * 10 + y) (by omega)
          have fz := Ia.frozen D1 (1 + x * 10 + y)
          have S1 : Hid (SqAt (wd.setCell ⟨b + 1, 1 + x * 10 + y, none⟩ (.int .i64 (f x y))) (b + 1) n (fillF n f x (y + 1))) := by
            have := Ia.set D1 (1 + x * 10 + y) (f x y)
            rw [sqC_upd _ _ _ (by omega), FS.out x y c2] at this
            exact this
          have S2 : Hid (SqAt (wd.setCell ⟨b + 1, 1 + x * 10 + y, none⟩ (.int .i64 (f x y))) b 0 (fun _ _ => 0)) := (Below.heap_setCell wd ⟨b + 1, 1 + x * 10 + y, none⟩ _ b (by simp only; omega)).trans D2
          have S3 : Hid (Below b w (wd.setCell ⟨b + 1, 1 + x * 10 + y, none⟩ (.int .i64 (f x y)))) := D3.setCell (p := ⟨b + 1, 1 + x * 10 + y, none⟩) (by simp only; omega) _
          clear hwd D1 D2 D3
          go_wp2
          go_roundw
          case rel => exact ⟨y + 1, by omega, by go_num, S1, S2, S3⟩
          case measure => simp [intOf]; omega
        · have k2 : decide (y < n) = false := by simpa using c2
          have k2' : decide ((y : Int) < (n : Int)) = false := decide_eq_false (by omega)
          obtain rfl : y = n := by omega
          go_wp2
          go_roundw
          case rel => exact ⟨x + 1, by omega, by go_num, by unfold Hid; rw [← FR.out]; exact hA2.out, hZ2, hBl2⟩
          case measure => simp [intOf]; omega
    · have k1 : decide (x < n) = false := by simpa using c
      have k1' : decide ((x : Int) < (n : Int)) = false := decide_eq_false (by omega)
      obtain rfl : x = n := by omega
      have hA' := hA.out
      rw [FA.out] at hA'
      have HA := Lib.hid hA'
      have P2 : Hid (SqAt (wr.setRow b (iar 101 (sqC x (sqF x f)))) b x (sqF x f)) := setRow_heap _ _ _ _ _ _ hZ.out
      clear hA'
      go_upto_region 11 with fail
      refine wp_region_list ?_
      refine wpList_load_row rfl 38 (.tmp 5) rfl _ rfl _ _ _ _ HA.out Try.underlying38 rfl (by rw [iar_size]; exact Try.infoSq) ?_
      refine wpList_store_row rfl 38 (.tmp 4) (.tmp 29) rfl _ (iar 101 (sqC x (sqF x f))) rfl rfl _ _ hZ.out (by rw [iar_size]; exact Try.infoSq) (by rw [iar_size, iar_size]) (iar_one _ _) ?_
      go_wp2
      refine bodyPost_ret (v := sqV x (sqF x f)) (results_cell_row Try.results27 _ _ _ _ _ _ _ rfl P2.out Try.underlying38 rfl (by rw [iar_size]; exact Try.infoSq)) rfl ⟨rfl, ?_⟩
      exact below_row hBl.out (Nat.le_refl _) _

/-! The program's rows of a square, in new memory. -/
section
open Go.RowKit
set_option linter.unusedVariables false

set_option maxRecDepth 100000 in
set_option maxHeartbeats 1000000 in
/-- slices.Clone of a row that is not empty. -/
theorem iclone (w : World) (g off n cap : Nat) (xs : List Int) (hn : xs.length = n) (h1 : 1 ≤ n) (h2 : n ≤ 1000) (hc : ∀ j, j < n → w.cell? ⟨g, off + j, none⟩ = some (.int .i64 (xs.getD j 0))) :
    Calls Try.prog 30 #[.slice (some ⟨g, off, none⟩) n cap] w fun e w' => ∃ r, e = .returned r ∧ Ints w' w.heap.size r xs ∧ Below w.heap.size w w' := by
  obtain ⟨i0, hi, hz0, hz1, hz2⟩ := info_parts Try.infoInt
  have HB : Hid (Below w.heap.size w (w.alloc (.cells #[] 2))) := (Below.refl _ _).alloc (Nat.le_refl _) _
  have HO : Hid (Ints (w.alloc (.cells #[] 2)) w.heap.size (.slice (some ⟨w.heap.size, 0, none⟩) 0 0) []) := World.ownsRow_made w #[] 0 (Nat.le_refl _) (by decide) rfl
  have HC : Hid (∀ j u, (xs.map (Value.int .i64))[j]? = some u → (w.alloc (.cells #[] 2)).cell? ((⟨g, off, none⟩ : Addr).add j) = some u) := by
    intro j u hj
    rw [List.getElem?_map] at hj
    have hj' : j < xs.length := by
      by_cases h : j < xs.length
      · exact h
      · rw [List.getElem?_eq_none (by omega)] at hj; cases hj
    rw [List.getElem?_eq_getElem hj'] at hj
    simp only [Option.map_some, Option.some.injEq] at hj
    subst hj
    have k := hc j (by omega)
    rw [show (⟨g, off, none⟩ : Addr).add j = ⟨g, off + j, none⟩ by unfold Addr.add; split <;> simp_all]
    rw [HB.out.cell (p := ⟨g, off + j, none⟩) (World.block_lt_of_cell? w _ k), k]
    simp [List.getD, List.getElem?_eq_getElem hj']
  have HX := Lib.hid hn
  have he : ∀ w : World, (binOp .eql 23 (.slice (some ⟨g, off, none⟩) n cap) (.slice none 0 0)).run Try.prog w = .ok (.bool false) w := fun _ => rfl
  clear hn hc
  go_enter Try.func30, Try.ntmps30
  go_wp2_with (at_builtin; refine wpList_append_own _ (by rfl) _ _ 23 (by rfl) w.heap.size 2 i0 (.int .i64 0) 1 8 Try.underlying23 hi hz0 hz1 hz2 rfl (by decide) _ 0 _ (by rfl) HO.out ⟨g, off, none⟩ n cap (xs.map (Value.int .i64)) (by rfl) (by rw [List.length_map, HX.out]; omega) HC.out (by intro u hu; obtain ⟨x, _, rfl⟩ := List.mem_map.1 hu; rfl) (by unfold maxLen; omega) (by omega) (Nat.le_of_lt (by simp)) ?_; intro v' w' h' hg' _; have H2 := Lib.hid h'; have G2 := Lib.hid hg'; clear h' hg')
  go_ret
  refine ⟨_, rfl, ?_, HB.out.grown G2.out (by simp) (fun k hk => ?_)⟩
  · have := H2.out
    unfold Ints
    rw [HX.out]
    simpa using this
  · simp [Value.ownBlock] at hk; omega

theorem SqAt.rowCell {w : World} {g n : Nat} {f : Nat → Nat → Int} (h : SqAt w g n f) {x : Nat} (hx : x < 10) (hn : n ≤ 10) : ∀ j, j < n → w.cell? ⟨g, 1 + x * 10 + j, none⟩ = some (.int .i64 (((List.range n).map (f x)).getD j 0)) := fun j hj => by
  rw [rowf_getD _ hj, Ia.cell h (1 + x * 10 + j) (by omega), sqC_at _ _ (by omega)]
theorem SqAt.order {w : World} {g n : Nat} {f : Nat → Nat → Int} (h : SqAt w g n f) : w.cell? ⟨g, 0, none⟩ = some (.int .i64 n) := Ia.cell h 0 (by omega)
theorem SqAt.below {w w' : World} {B g n : Nat} {f : Nat → Nat → Int} (h : SqAt w g n f) (hb : Below B w w') (hg : g < B) : SqAt w' g n f := Ia.below h hb hg

set_option maxRecDepth 100000 in
set_option maxHeartbeats 4000000 in
theorem irows (n : Nat) (hn : n ≤ 10) (w : World) (f : Nat → Nat → Int) :
    Calls Try.prog 21 #[sqV n f] w fun e w' => ∃ r, e = .returned r ∧ RowsL w' w.heap.size w'.heap.size r (gridL n n f) ∧ Below w.heap.size w w' := by
  obtain ⟨b, hb⟩ : ∃ b, w.heap.size = b := ⟨_, rfl⟩
  have bx : (w.alloc (.cells (iar 101 (sqC n f)) 38)).heap.size = b + 1 := by rw [World.size_alloc, hb]
  have b1 : Below b w (w.alloc (.cells (iar 101 (sqC n f)) 38)) := (Below.refl _ _).alloc (by omega) _
  have A1 : SqAt (w.alloc (.cells (iar 101 (sqC n f)) 38)) b n f := by unfold SqAt Ia; rw [← hb]; exact heap_alloc_new _ _
  obtain ⟨w1, hw1⟩ : ∃ w1, w.alloc (.cells (iar 101 (sqC n f)) 38) = w1 := ⟨_, rfl⟩
  rw [hw1] at bx b1 A1
  have hmk := run_make_row' (P := Try.prog) 22 23 (.slice none 0 0) 24 Try.underlying22 Try.infoRow rfl .i64 .i64 n (by omega) (by omega) w1
  have O2 := World.ownsRow_lit (base := b + 1) (e := 23) (size := 1) w1 (madeCells #[.slice none 0 0] n) n (by omega) (by unfold maxLen; omega) (by simp [size_madeCells])
  rw [toList_madeCells_one, bx] at O2
  have b2 : Below b w (w1.alloc (.cells (madeCells #[.slice none 0 0] n) 23)) := b1.alloc (by omega) _
  have A2 : SqAt (w1.alloc (.cells (madeCells #[.slice none 0 0] n) 23)) b n f := (heap_alloc_old _ _ (by omega)).trans A1
  have z2 : (w1.alloc (.cells (madeCells #[.slice none 0 0] n) 23)).heap.size = b + 2 := by rw [World.size_alloc, bx]
  rw [bx] at hmk
  obtain ⟨w2, hw2⟩ : ∃ w2, w1.alloc (.cells (madeCells #[.slice none 0 0] n) 23) = w2 := ⟨_, rfl⟩
  rw [hw2] at hmk O2 b2 A2 z2
  have R2 : RowsL w2 (b + 1) w2.heap.size (.slice (some ⟨b + 1, 0, none⟩) n n) (gridP n n f 0) := by
    rw [gridP_zero]
    exact RowsL.nils O2 (fun k e => by simp only [Value.ownBlock, Option.some.injEq] at e; omega) (Nat.le_refl _)
  have or1 := SqAt.order A1
  rw [hb]
  have R0 := Lib.hid R2
  have A0 := Lib.hid A2
  have B0 := Lib.hid b2
  have z0 : b + 2 ≤ w2.heap.size := by omega
  have HB := Lib.hid hb
  have GS : Hid (∀ j, j < n → (gridP n n f j).set j ((List.range n).map (f j)) = gridP n n f (j + 1)) := fun j h => gridP_succ n n f h
  have GL : Hid (∀ j, j ≤ n → (gridP n n f j).length = n) := fun j h => gridP_length n n f h
  have GA : Hid (gridP n n f n = gridL n n f) := gridP_all n n f
  have hdef : sqV n f = .agg (iar 101 (sqC n f)) := rfl
  rw [hdef]
  clear O2 R2 A2 b2 A1 b1 hdef bx
  go_enter Try.func21, Try.ntmps21
  go_wp2
  clear hmk hw1 hw2 or1 hb
  go_loopw [10] (fun i wr => ∃ x : Nat, x ≤ n ∧ i = .int .i64 x ∧ Hid (SqAt wr b n f) ∧ Hid (RowsL wr (b + 1) wr.heap.size (.slice (some ⟨b + 1, 0, none⟩) n n) (gridP n n f x)) ∧ Hid (Below b w wr) ∧ b + 2 ≤ wr.heap.size) (fun i _ => n - (intOf i).toNat)
  case atStart => exact ⟨0, by omega, rfl, A0, R0, B0, z0⟩
  case round =>
    obtain ⟨x, hx, rfl, hA, hR, hBl, hz⟩ := hrel
    by_cases c : x < n
    · have k1 : decide (x < n) = true := by simpa using c
      have k1' : decide ((x : Int) < (n : Int)) = true := decide_eq_true (by omega)
      have w3 := IntWalk.i64_in ((x : Int) + 1) (by omega)
      have x0 : (0 : Int) ≤ (x : Int) := by omega
      have x1 : (x : Int) < 10 := by omega
      have x2 : (x : Int) < (n : Int) := by omega
      have n0 : (0 : Int) ≤ (n : Int) := by omega
      have n1 : (n : Int) ≤ 10 := by omega
      go_wp2
      have hA2 : SqAt wr.drew b n f := hA.out
      have hz2 : wr.drew.heap.size = wr.heap.size := rfl
      have hR2 : Hid (RowsL wr.drew (b + 1) wr.drew.heap.size (.slice (some ⟨b + 1, 0, none⟩) n n) (gridP n n f x)) := hR.out
      have hB2 : Hid (Below b w wr.drew) := hBl.out.drew
      have HA := Lib.hid hA2
      have or2 := SqAt.order hA2
      have HCl := Lib.hid (iclone wr.drew b (1 + x * 10) n 10 ((List.range n).map (f x)) (rowf_length _ _) (by omega) (by omega) (SqAt.rowCell hA2 (by omega) hn))
      have KEY : Hid (∀ w4 r, Ints w4 wr.drew.heap.size r ((List.range n).map (f x)) → Below wr.drew.heap.size wr.drew w4 → w4.cell? ⟨b, 0, none⟩ = some (.int .i64 n) ∧ (∃ old, w4.cell? ⟨b + 1, x, none⟩ = some old) ∧ w4.frozen? ⟨b + 1, x, none⟩ = false ∧
          (w4.setCell ⟨b + 1, x, none⟩ r).cell? ⟨b, 0, none⟩ = some (.int .i64 n) ∧ SqAt (w4.setCell ⟨b + 1, x, none⟩ r) b n f ∧ RowsL (w4.setCell ⟨b + 1, x, none⟩ r) (b + 1) (w4.setCell ⟨b + 1, x, none⟩ r).heap.size (.slice (some ⟨b + 1, 0, none⟩) n n) (gridP n n f (x + 1)) ∧
          Below b w (w4.setCell ⟨b + 1, x, none⟩ r) ∧ b + 2 ≤ (w4.setCell ⟨b + 1, x, none⟩ r).heap.size) := fun w4 r i4 b4 => by
        have gl := GL.out x (by omega)
        have s4 := b4.size
        have A4 : SqAt w4 b n f := SqAt.below HA.out b4 (by omega)
        obtain ⟨g0, c0, e0, ho, hf, _, _, hp⟩ := RowsL.put (hR2.out.below b4 (Nat.le_refl _)) (j := x) (by rw [gl]; exact c) (by omega) i4
        simp only [Value.slice.injEq, Option.some.injEq, Addr.mk.injEq] at e0
        obtain ⟨⟨rfl, -⟩, -⟩ := e0
        rw [GS.out x c] at hp
        have A5 : SqAt (w4.setCell ⟨b + 1, x, none⟩ r) b n f := (Below.heap_setCell w4 ⟨b + 1, x, none⟩ _ b (by simp only; omega)).trans A4
        have z5 : (w4.setCell ⟨b + 1, x, none⟩ r).heap.size = w4.heap.size := by simp [World.setCell]
        rw [← z5] at hp
        exact ⟨SqAt.order A4, ho, hf, SqAt.order A5, A5, hp, (hB2.out.trans (b4.mono (by omega))).setCell (p := ⟨b + 1, x, none⟩) (by simp only; omega) _, by omega⟩
      obtain ⟨R, hRR⟩ : ∃ R, (List.range n).map (f x) = R := ⟨_, rfl⟩
      rw [hRR] at HCl KEY
      clear hA2 hRR
      go_region_held3 (fun w' => w'.cell? ⟨b, 0, none⟩ = some (.int .i64 n)) (first | assumption)
        (first | (go_at_call 30; refine (HCl.out).mono ?_; rintro e w4 ⟨r, rfl, i4, b4⟩; obtain ⟨ra, rc, rfl⟩ := Ints.len_eq i4; obtain ⟨f1, ⟨old, f2⟩, f3, f4, f5, f6, f7, f8⟩ := KEY.out w4 _ i4 b4; have F5 := Lib.hid f5; have F6 := Lib.hid f6; have F7 := Lib.hid f7; clear f5 f6 f7 i4 b4))
      go_wp2
      go_roundw
      case rel => exact ⟨x + 1, by omega, by go_num, F5, F6, F7, f8⟩
      case measure => simp [intOf]; omega
    · have k1 : decide (x < n) = false := by simpa using c
      have k1' : decide ((x : Int) < (n : Int)) = false := decide_eq_false (by omega)
      obtain rfl : x = n := by omega
      have R := hR.out.mono (B' := b) (by omega) (Nat.le_refl _) (Nat.le_refl _)
      rw [GA.out] at R
      have RR := Lib.hid R
      clear R
      go_wp2
      go_ret
      exact ⟨_, rfl, RR.out, hBl.out⟩

/-! The program's squares out of rows: transposed, latinSquareOf. -/
section
open Go.RowKit Go.Shelf
set_option linter.unusedVariables false

theorem ifill2 (n : Nat) (hn : n ≤ 10) (w : World) (s : Value) (f : Nat → Nat → Int) (hs : SymOk w w.heap.size s n f) :
    Calls Try.prog 27 #[.int .i64 n, s] w fun e w' => e = .returned (.agg (iar 101 (sqC n (sqF n f)))) ∧ Below w.heap.size w w' := ifill n hn w s f hs
theorem irows2 (n : Nat) (hn : n ≤ 10) (w : World) (f : Nat → Nat → Int) :
    Calls Try.prog 21 #[.agg (iar 101 (sqC n f))] w fun e w' => ∃ r, e = .returned r ∧ RowsL w' w.heap.size w'.heap.size r (gridL n n f) ∧ Below w.heap.size w w' := irows n hn w f

set_option maxHeartbeats 1000000 in
theorem iltr (W : World) (g n : Nat) (f : Nat → Nat → Int) (h : SqAt W g n f) (x y : Nat) (hx : x < 10) (hy : y < 10) :
    Calls Try.prog 34 #[.int .i64 x, .int .i64 y, .pointer (some ⟨g, 0, none⟩)] W fun e W' => e = .returned (.int .i64 (f y x)) ∧ W' = W := by
  have c := Ia.cell h (1 + y * 10 + x) (by omega)
  rw [sqC_at _ _ hx] at c
  have x0 : (0 : Int) ≤ (x : Int) := by omega
  have x1 : (x : Int) < 10 := by omega
  have y0 : (0 : Int) ≤ (y : Int) := by omega
  have y1 : (y : Int) < 10 := by omega
  obtain ⟨z, hz⟩ : ∃ z, f y x = z := ⟨_, rfl⟩
  rw [hz] at c ⊢
  clear hz h
  go_enter Try.func34, Try.ntmps34
  go_wp2
  go_ret
  exact ⟨rfl, rfl⟩

set_option maxRecDepth 100000 in
set_option maxHeartbeats 4000000 in
theorem itrans (n : Nat) (hn : n ≤ 10) (w : World) (f : Nat → Nat → Int) :
    Calls Try.prog 29 #[.agg (iar 101 (sqC n f))] w fun e w' => e = .returned (.agg (iar 101 (sqC n (sqF n (fun x y => f y x))))) ∧ Below w.heap.size w w' := by
  have hmf : ∀ (fn : Fn) (first cap : Array Value) (w : World), (Instr.makeFunc fn first cap).run Try.prog w = .ok (.func fn first cap) w := fun _ _ _ _ => rfl
  obtain ⟨b, hb⟩ : ∃ b, w.heap.size = b := ⟨_, rfl⟩
  have bx : (w.alloc (.cells (iar 101 (sqC n f)) 38)).heap.size = b + 1 := by rw [World.size_alloc, hb]
  have b1 : Below b w (w.alloc (.cells (iar 101 (sqC n f)) 38)) := (Below.refl _ _).alloc (by omega) _
  have A1 : SqAt (w.alloc (.cells (iar 101 (sqC n f)) 38)) b n f := by unfold SqAt Ia; rw [← hb]; exact heap_alloc_new _ _
  obtain ⟨w1, hw1⟩ : ∃ w1, w.alloc (.cells (iar 101 (sqC n f)) 38) = w1 := ⟨_, rfl⟩
  rw [hw1] at bx b1 A1
  have b2 : Below b w (w1.alloc (.cells Try.zeroCells38 38)) := b1.alloc (by omega) _
  have A2 : SqAt (w1.alloc (.cells Try.zeroCells38 38)) b n f := (heap_alloc_old _ _ (by omega)).trans A1
  have A3 : SqAt (w1.alloc (.cells Try.zeroCells38 38)) (b + 1) 0 (fun _ _ => 0) := by unfold SqAt Ia; rw [← sqC_zeros, ← bx, heap_alloc_new, zeroSq]
  have z2 : (w1.alloc (.cells Try.zeroCells38 38)).heap.size = b + 2 := by rw [World.size_alloc, bx]
  obtain ⟨w2, hw2⟩ : ∃ w2, w1.alloc (.cells Try.zeroCells38 38) = w2 := ⟨_, rfl⟩
  rw [hw2] at b2 A2 A3 z2
  have HF := Lib.hid (ifill2 n hn w2 (.func (.func 34) #[] #[.pointer (some ⟨b, 0, none⟩)]) (fun x y => f y x)
    ⟨_, _, _, rfl, enters_of Try.func34 (by kernel_rfl) rfl, fun W x y hW hx hy => iltr W b n f (SqAt.below A2 hW (by omega)) x y (by omega) (by omega)⟩)
  have or2 := SqAt.order A2
  have H3 := Lib.hid A3
  have HB2 := Lib.hid b2
  rw [hb]
  clear A1 A2 A3 b1 b2
  go_enter Try.func29, Try.ntmps29
  go_wp2_with fail
  refine HF.out.mono ?_
  rintro e w3 ⟨rfl, b3⟩
  have A4 := SqAt.below H3.out b3 (by omega)
  have st := Ia.stores (d := sqC n (sqF n (fun x y => f y x))) A4
  have P2 : Hid (SqAt (w3.setRow (b + 1) (iar 101 (sqC n (sqF n (fun x y => f y x))))) (b + 1) n (sqF n (fun x y => f y x))) := setRow_heap _ _ _ _ _ _ A4
  have P3 : Hid (Below b w (w3.setRow (b + 1) (iar 101 (sqC n (sqF n (fun x y => f y x)))))) := below_row (HB2.out.trans (b3.mono (by omega))) (by omega) _
  clear b3 A4
  go_wp2
  refine bodyPost_ret (v := .agg (iar 101 (sqC n (sqF n (fun x y => f y x))))) (results_cell_row Try.results29 _ _ _ _ _ _ _ rfl P2.out Try.underlying38 rfl (by rw [iar_size]; exact Try.infoSq)) rfl ⟨rfl, P3.out⟩

/-- Two results: a variable of several cells, and a temporary. -/
theorem results_cell_tmp {P : Program} {fn : Func} {p t : Tmp} {ty : TypeId} (h : fn.results = #[.cell p ty, .tmp t]) (tmps : Array Value) (w : World) (g : Nat) (T : TypeId) (cs : Array Value) (fr : Nat × Nat) (d : TypeDesc)
    (hp : tmps.getD p undef = .pointer (some ⟨g, 0, none⟩)) (v : Value) (ht : tmps.getD t undef = v) (hg : w.heap[g]? = some (.cells cs T fr))
    (hu : P.underlying ty = some d) (hd : (match d with | .struct _ | .array _ _ => true | _ => false) = true) (hi : (P.info? ty).map (·.size) = some cs.size) :
    (results fn tmps).run P w = .ok (.tuple #[.agg cs, v]) w := by
  have hp' : tmps[p]?.getD undef = .pointer (some ⟨g, 0, none⟩) := by simpa using hp
  have ht' : tmps[t]?.getD undef = v := by simpa using ht
  simp [results, h, hp', ht', asAddr, run_loadVar_row w g T ty cs fr d hg hu hd hi]

set_option maxHeartbeats 1000000 in
theorem iclos (W : World) (b : Nat) (v : Value) (xss : List (List Int)) (hb : W.cell? ⟨b, 0, none⟩ = some v) (hv : RowsAt W v xss) (x y : Nat) (hx : x < xss.length) (hy : y < (xss.getD x []).length) (hl : xss.length ≤ 10) (hl2 : (xss.getD x []).length ≤ 10) :
    Calls Try.prog 28 #[.int .i64 x, .int .i64 y, .pointer (some ⟨b, 0, none⟩)] W fun e W' => e = .returned (.int .i64 (cellF xss x y)) ∧ W' = W := by
  obtain ⟨g, off, g2, off2, l2, c2, cap, rfl, h1, rfl, h3⟩ := hv.at2 hx hy
  have e : cellF xss x y = (xss.getD x []).getD y 0 := rfl
  rw [e]
  obtain ⟨z, hz⟩ : ∃ z, (xss.getD x []).getD y 0 = z := ⟨_, rfl⟩
  rw [hz] at h3 ⊢
  obtain ⟨n, hn⟩ : ∃ n, xss.length = n := ⟨_, rfl⟩
  obtain ⟨m, hm⟩ : ∃ m, (xss.getD x []).length = m := ⟨_, rfl⟩
  rw [hn] at hb hx hl
  rw [hm] at h1 hy hl2
  have x0 : (0 : Int) ≤ (x : Int) := by omega
  have x1 : (x : Int) < (n : Int) := by omega
  have y0 : (0 : Int) ≤ (y : Int) := by omega
  have y1 : (y : Int) < (m : Int) := by omega
  clear hz hn hm hv e
  go_enter Try.func28, Try.ntmps28
  go_wp2
  go_ret
  exact ⟨rfl, rfl⟩

theorem IsSq.hp {xss : List (List Int)} (h1 : 1 ≤ xss.length) (h2 : xss.length ≤ 10) :
    sqB xss = (hpB xss.length xss && hpB xss.length (gridL xss.length xss.length (sqF xss.length (fun x y => sqF xss.length (cellF xss) y x)))) := by
  have eg : gridL xss.length xss.length (sqF xss.length (fun x y => sqF xss.length (cellF xss) y x)) = gridL xss.length xss.length (fun x y => cellF xss y x) := by
    rw [gridL_sqF]
    exact gridL_congr fun x y hx hy => sqF_in _ hy hx
  rw [eg]
  have er : ∀ x, x < xss.length → (gridL xss.length xss.length (fun x y => cellF xss y x)).getD x [] = colL xss x := fun x hx => by
    rw [gridL_getD _ hx]; exact colL_grid
  cases e1 : hpB xss.length xss with
  | false =>
    rw [Bool.false_and]
    refine sqB_false fun k => ?_
    rw [hpB_true (fun x hx => k.row x hx)] at e1
    cases e1
  | true =>
    rw [Bool.true_and]
    have k1 := of_hpB e1
    cases e2 : hpB xss.length (gridL xss.length xss.length (fun x y => cellF xss y x)) with
    | false =>
      refine sqB_false fun k => ?_
      rw [hpB_true (fun x hx => ?_)] at e2
      · cases e2
      · rw [gridL_length] at hx
        unfold rowD
        rw [er x hx, colL_length]
        exact ⟨rfl, k.col x hx⟩
    | true =>
      have k2 := of_hpB e2
      refine sqB_true ⟨h1, h2, k1, fun y hy => ?_⟩
      have := (k2 y (by rw [gridL_length]; exact hy)).2
      rwa [er y hy] at this

theorem zeroSq2 : Try.zeroCells38 = iar 101 (sqC 0 (fun _ _ => 0)) := zeroSq.trans (congrArg (iar 101) sqC_zeros)
theorem SqAt.zst {w : World} {g n : Nat} {f : Nat → Nat → Int} (h : SqAt w g n f) : (storeCells ⟨g, 0, none⟩ Try.zeroCells38.toList 0).run Try.prog w = .ok () (w.setRow g (iar 101 (sqC 0 (fun _ _ => 0)))) := by
  have := Ia.stores (d := sqC 0 (fun _ _ => 0)) h
  rwa [← zeroSq2] at this ⊢
theorem SqAt.row {w : World} {g n m : Nat} {f k : Nat → Nat → Int} (h : SqAt w g n f) : SqAt (w.setRow g (iar 101 (sqC m k))) g m k := setRow_heap _ _ _ _ _ _ h

set_option maxRecDepth 100000 in
set_option maxHeartbeats 4000000 in
theorem ilsq (w : World) (v : Value) (xss : List (List Int)) (hv : RowsAt w v xss) :
    Calls Try.prog 18 #[v] w fun e w' => ∃ n f, e = .returned (.tuple #[.agg (iar 101 (sqC n f)), .bool (sqB xss)]) ∧ (sqB xss = true → n = xss.length ∧ f = sqF xss.length (cellF xss)) ∧ Below w.heap.size w w' := by
  have hmf : ∀ (fn : Fn) (first cap : Array Value) (w : World), (Instr.makeFunc fn first cap).run Try.prog w = .ok (.func fn first cap) w := fun _ _ _ _ => rfl
  obtain ⟨b, hb⟩ : ∃ b, w.heap.size = b := ⟨_, rfl⟩
  have hml := hv.1
  obtain ⟨va, vc, rfl, vk, -⟩ := hv.cellsOf
  obtain ⟨v, hvv⟩ : ∃ v, Value.slice va xss.length vc = v := ⟨_, rfl⟩
  have bx : (w.alloc (.cells #[v] 22)).heap.size = b + 1 := by rw [World.size_alloc, hb]
  have b1 : Below b w (w.alloc (.cells #[v] 22)) := (Below.refl _ _).alloc (by omega) _
  have A1 : (w.alloc (.cells #[v] 22)).heap[b]? = some (.cells #[v] 22 (0, 0)) := by rw [← hb]; exact heap_alloc_new _ _
  obtain ⟨w1, hw1⟩ : ∃ w1, w.alloc (.cells #[v] 22) = w1 := ⟨_, rfl⟩
  rw [hw1] at bx b1 A1
  have b2 : Below b w (w1.alloc (.cells Try.zeroCells38 38)) := b1.alloc (by omega) _
  have A2 : (w1.alloc (.cells Try.zeroCells38 38)).heap[b]? = some (.cells #[v] 22 (0, 0)) := (heap_alloc_old _ _ (by omega)).trans A1
  have A3 : SqAt (w1.alloc (.cells Try.zeroCells38 38)) (b + 1) 0 (fun _ _ => 0) := by unfold SqAt Ia; rw [← sqC_zeros, ← bx, heap_alloc_new, zeroSq]
  have z2 : (w1.alloc (.cells Try.zeroCells38 38)).heap.size = b + 2 := by rw [World.size_alloc, bx]
  obtain ⟨w2, hw2⟩ : ∃ w2, w1.alloc (.cells Try.zeroCells38 38) = w2 := ⟨_, rfl⟩
  rw [hw2] at b2 A2 A3 z2
  subst hvv
  have c2 : w2.cell? ⟨b, 0, none⟩ = some (.slice va xss.length vc) := by rw [cell_of_row w2 b 0 _ _ _ A2]; rfl
  have hv2 : RowsAt w2 (.slice va xss.length vc) xss := hv.below b2 (by omega)
  have Z2 := Lib.hid A3
  have HB2 := Lib.hid b2
  have HB := Lib.hid hb
  have x2 := Lib.hid A2
  by_cases hr : 1 ≤ xss.length ∧ xss.length ≤ 10
  case neg =>
    have V : sqB xss = false := sqB_false fun k => hr ⟨k.lo, k.hi⟩
    have HV := Lib.hid V
    have zs := SqAt.zst A3
    have P2 := Lib.hid (SqAt.row (m := 0) (k := fun _ _ => 0) A3)
    have P3 : Hid (Below b w (w2.setRow (b + 1) (iar 101 (sqC 0 (fun _ _ => 0))))) := below_row b2 (by omega) _
    obtain ⟨n, hn⟩ : ∃ n, xss.length = n := ⟨_, rfl⟩
    rw [hn] at hml c2 hr hw1
    rw [hn]
    by_cases c : n < 1
    · have t1 : decide ((n : Int) < 1) = true := decide_eq_true (by omega)
      have t1' : decide (n < 1) = true := decide_eq_true (by omega)
      clear A2 A3 hv hv2 b1 b2 hn V
      go_enter Try.func18, Try.ntmps18
      go_wp2
      refine bodyPost_ret (v := .tuple #[.agg (iar 101 (sqC 0 (fun _ _ => 0))), .bool false]) (results_cell_tmp Try.results18 _ _ _ _ _ _ _ rfl _ rfl P2.out Try.underlying38 rfl (by rw [iar_size]; exact Try.infoSq)) rfl ⟨0, fun _ _ => 0, by rw [HV.out], (fun h => by rw [HV.out] at h; cases h), ?_⟩
      rw [HB.out]; exact P3.out
    · have t1 : decide ((n : Int) < 1) = false := decide_eq_false (by omega)
      have t1' : decide (n < 1) = false := decide_eq_false (by omega)
      have t2 : decide ((10 : Int) < (n : Int)) = true := decide_eq_true (by omega)
      have t2' : decide (10 < n) = true := decide_eq_true (by omega)
      clear A2 A3 hv hv2 b1 b2 hn V
      go_enter Try.func18, Try.ntmps18
      go_wp2
      refine bodyPost_ret (v := .tuple #[.agg (iar 101 (sqC 0 (fun _ _ => 0))), .bool false]) (results_cell_tmp Try.results18 _ _ _ _ _ _ _ rfl _ rfl P2.out Try.underlying38 rfl (by rw [iar_size]; exact Try.infoSq)) rfl ⟨0, fun _ _ => 0, by rw [HV.out], (fun h => by rw [HV.out] at h; cases h), ?_⟩
      rw [HB.out]; exact P3.out
  obtain ⟨h1, h2⟩ := hr
  have SQ := Lib.hid (IsSq.hp h1 h2)
  have hs1 : w2.heap.size = b + 2 := z2
  have HP := Lib.hid (ihp xss.length (by omega) w2 _ xss hv2)
  have HV2 := Lib.hid hv2
  obtain ⟨p, hp⟩ : ∃ p, hpB xss.length xss = p := ⟨_, rfl⟩
  rw [hp] at HP SQ
  have R1 := Lib.hid (fun (h : p = true) x (hx : x < xss.length) => (of_hpB (hp.trans h) x hx).1)
  obtain ⟨n, hn⟩ : ∃ n, xss.length = n := ⟨_, rfl⟩
  have CLO := Lib.hid (fun (h : p = true) W x y (hW : Below w2.heap.size w2 W) (hx : x < n) (hy : y < n) => iclos W b (.slice va n vc) xss ((hW.cell (p := ⟨b, 0, none⟩) (by simp only; omega)).trans (by rw [← hn]; exact c2)) (by rw [← hn]; exact HV2.out.below hW (Nat.le_refl _)) x y (by rw [hn]; exact hx) (by rw [R1.out h x (by rw [hn]; exact hx), hn]; exact hy) h2 (by rw [R1.out h x (by rw [hn]; exact hx)]; exact h2))
  rw [hn] at HP SQ h1 h2 c2 hw1 ⊢
  have t1 : decide ((n : Int) < 1) = false := decide_eq_false (by omega)
  have t1' : decide (n < 1) = false := decide_eq_false (by omega)
  have t2 : decide ((10 : Int) < (n : Int)) = false := decide_eq_false (by omega)
  have t2' : decide (10 < n) = false := decide_eq_false (by omega)
  have HN := Lib.hid hn
  clear A2 A3 hv hv2 b1 b2 hn hp R1 HV2 hml
  cases p with
  | false =>
    have V : Hid (sqB xss = false) := by have := SQ.out; rwa [Bool.false_and] at this
    clear CLO SQ
    go_enter Try.func18, Try.ntmps18
    go_wp2_with fail
    refine HP.out.mono ?_
    rintro e w3 ⟨rfl, b3⟩
    have A3 := SqAt.below Z2.out b3 (by omega)
    have zs := SqAt.zst A3
    have P2 := Lib.hid (SqAt.row (m := 0) (k := fun _ _ => 0) A3)
    have P3 : Hid (Below b w (w3.setRow (b + 1) (iar 101 (sqC 0 (fun _ _ => 0))))) := below_row (HB2.out.trans (b3.mono (by omega))) (by omega) _
    clear A3 b3
    go_wp2
    refine bodyPost_ret (v := .tuple #[.agg (iar 101 (sqC 0 (fun _ _ => 0))), .bool false]) (results_cell_tmp Try.results18 _ _ _ _ _ _ _ rfl _ rfl P2.out Try.underlying38 rfl (by rw [iar_size]; exact Try.infoSq)) rfl ⟨0, fun _ _ => 0, by rw [V.out], (fun h => by rw [V.out] at h; cases h), ?_⟩
    rw [HB.out]; exact P3.out
  | true =>
    have SQ2 : Hid (sqB xss = hpB n (gridL n n (sqF n (fun x y => sqF n (cellF xss) y x)))) := by have := SQ.out; rwa [Bool.true_and] at this
    clear SQ
    go_enter Try.func18, Try.ntmps18
    go_wp2_with fail
    refine HP.out.mono ?_
    rintro e w3 ⟨rfl, b3⟩
    have HB3 := Lib.hid b3
    have s3 := b3.size
    have HF := Lib.hid (ifill2 n h2 w3 (.func (.func 28) #[] #[.pointer (some ⟨b, 0, none⟩)]) (cellF xss)
      ⟨_, _, _, rfl, enters_of Try.func28 (by kernel_rfl) rfl, fun W x y hW hx hy => CLO.out (by trivial) W x y (b3.trans (hW.mono s3)) hx hy⟩)
    clear b3 CLO HP
    go_wp2_with fail
    refine HF.out.mono ?_
    rintro e w4 ⟨rfl, b4⟩
    have s4 := b4.size
    have B4 : Hid (Below w2.heap.size w2 w4) := HB3.out.trans (b4.mono s3)
    have s24 := B4.out.size
    obtain ⟨F, hF⟩ : ∃ F, sqF n (cellF xss) = F := ⟨_, rfl⟩
    have st := stores_newSq w4 (sqC n F)
    have A5 : SqAt (w4.alloc (.cells (iar 101 (sqC n F)) 38)) w4.heap.size n F := heap_alloc_new _ _
    have b5 : Below w2.heap.size w2 (w4.alloc (.cells (iar 101 (sqC n F)) 38)) := B4.out.alloc s24 _
    have z5 : (w4.alloc (.cells (iar 101 (sqC n F)) 38)).heap.size = w4.heap.size + 1 := World.size_alloc _ _
    obtain ⟨w5, hw5⟩ : ∃ w5, w4.alloc (.cells (iar 101 (sqC n F)) 38) = w5 := ⟨_, rfl⟩
    rw [hw5] at st A5 b5 z5
    rw [hF]
    obtain ⟨q, hq⟩ : ∃ q, w4.heap.size = q := ⟨_, rfl⟩
    rw [hq] at st A5 z5
    have ld5 := Ia.loads A5
    have X5 := Lib.hid A5
    have B5 := Lib.hid b5
    have HT := Lib.hid (itrans n h2 w5 F)
    rw [hF] at SQ2
    have HHF := Lib.hid hF
    clear A5 b5 b4 HF B4 hF
    go_wp2_with (refine wpList_load_row rfl 38 (.tmp 5) rfl _ rfl _ _ _ _ X5.out Try.underlying38 rfl (by rw [iar_size]; exact Try.infoSq) ?_)
    refine HT.out.mono ?_
    rintro e w6 ⟨rfl, b6⟩
    have B6 : Hid (Below w2.heap.size w2 w6) := B5.out.trans (b6.mono B5.out.size)
    have X6 : Hid (SqAt w6 q n F) := SqAt.below X5.out b6 (by omega)
    have HR := Lib.hid (irows2 n h2 w6 (sqF n (fun x y => F y x)))
    clear b6 HT X5 B5 ld5
    go_wp2_with fail
    refine HR.out.mono ?_
    rintro e w7 ⟨r, rfl, r7, b7⟩
    have s6 := B6.out.size
    have B7 : Hid (Below w2.heap.size w2 w7) := B6.out.trans (b7.mono s6)
    have s67 := b7.size
    have X7 : Hid (SqAt w7 q n F) := SqAt.below X6.out b7 (by have := Ia.lt X6.out; omega)
    have HH := Lib.hid (ihp n (by omega) w7 _ _ r7.at)
    rw [← SQ2.out] at HH
    clear b7 HR X6 r7
    go_wp2_with fail
    refine HH.out.mono ?_
    rintro e w8 ⟨rfl, b8⟩
    have B8 : Hid (Below w2.heap.size w2 w8) := B7.out.trans (b8.mono (by omega))
    have X8 : Hid (SqAt w8 q n F) := SqAt.below X7.out b8 (by have := Ia.lt X7.out; omega)
    have A8 : SqAt w8 (b + 1) 0 (fun _ _ => 0) := SqAt.below Z2.out B8.out (by omega)
    have ZZ := Lib.hid A8
    clear b8 X7 HH
    obtain ⟨z, hz⟩ : ∃ z, sqB xss = z := ⟨_, rfl⟩
    rw [hz]
    have HZ := Lib.hid hz
    clear hz
    cases z with
    | false =>
      have zs := SqAt.zst A8
      have P2 := Lib.hid (SqAt.row (m := 0) (k := fun _ _ => 0) A8)
      have P3 : Hid (Below b w (w8.setRow (b + 1) (iar 101 (sqC 0 (fun _ _ => 0))))) := below_row (HB2.out.trans (B8.out.mono (by omega))) (by omega) _
      clear A8
      go_wp2
      refine bodyPost_ret (v := .tuple #[.agg (iar 101 (sqC 0 (fun _ _ => 0))), .bool false]) (results_cell_tmp Try.results18 _ _ _ _ _ _ _ rfl _ rfl P2.out Try.underlying38 rfl (by rw [iar_size]; exact Try.infoSq)) rfl ⟨0, fun _ _ => 0, by rw [HZ.out], (fun h => by rw [HZ.out] at h; cases h), ?_⟩
      rw [HB.out]; exact P3.out
    | true =>
      have P2 := Lib.hid (SqAt.row (m := n) (k := F) A8)
      have P3 : Hid (Below b w (w8.setRow (b + 1) (iar 101 (sqC n F)))) := below_row (HB2.out.trans (B8.out.mono (by omega))) (by omega) _
      have st2 := Ia.stores (d := sqC n F) A8
      clear A8
      go_wp2_with (refine wpList_load_row rfl 38 (.tmp 5) rfl _ rfl _ _ _ _ X8.out Try.underlying38 rfl (by rw [iar_size]; exact Try.infoSq) ?_)
      refine bodyPost_ret (v := .tuple #[.agg (iar 101 (sqC n F)), .bool true]) (results_cell_tmp Try.results18 _ _ _ _ _ _ _ rfl _ rfl P2.out Try.underlying38 rfl (by rw [iar_size]; exact Try.infoSq)) rfl ⟨n, F, by rw [HZ.out], (fun _ => ⟨rfl, HHF.out.symm⟩), ?_⟩
      rw [HB.out]; exact P3.out
end

/-! filledSquare with a function that draws. -/
section
open Go.RowKit
set_option linter.unusedVariables false

/-- What a function on rows and columns answers, reading what lies below B, in whatever order. -/
def SymOkB (w : World) (B : Nat) (s : Value) (n : Nat) (f : Nat → Nat → Int) : Prop :=
  ∃ fn fs cs, s = .func (.func fn) fs cs ∧ (∀ args W, (callFunc fn args).run Try.prog W = .ok (.enter fn args) W) ∧ ∀ (W : World) (x y : Nat), Below B w W → x < n → y < n → Calls Try.prog fn (fs ++ (#[.int .i64 x, .int .i64 y] ++ cs)) W fun e W' => e = .returned (.int .i64 (f x y)) ∧ Below W.heap.size W W'

set_option maxRecDepth 100000 in
set_option maxHeartbeats 4000000 in
theorem ifilld (n : Nat) (hn : n ≤ 10) (w : World) (s : Value) (f : Nat → Nat → Int) (hs : SymOkB w w.heap.size s n f) :
    Calls Try.prog 27 #[.int .i64 n, s] w fun e w' => e = .returned (sqV n (sqF n f)) ∧ Below w.heap.size w w' := by
  obtain ⟨fn, fs, cs, rfl, hcf, hc⟩ := hs
  have HS := Lib.hid hc
  obtain ⟨b, hb⟩ : ∃ b, w.heap.size = b := ⟨_, rfl⟩
  obtain ⟨w1, hw1⟩ : ∃ w1, w.alloc (.cells Try.zeroCells38 38) = w1 := ⟨_, rfl⟩
  have b1 : Below b w w1 := by rw [← hw1]; exact (Below.refl _ _).alloc (by omega) _
  have z1 : w1.heap.size = b + 1 := by rw [← hw1, World.size_alloc, hb]
  have A1 : SqAt w1 b 0 (fun _ _ => 0) := by unfold SqAt Ia; rw [← sqC_zeros, ← hw1, ← hb, heap_alloc_new, zeroSq]
  have st := stores_newSq w1 (sqC n (fun _ _ => 0))
  rw [← sq_build, z1] at st
  have A2 : SqAt (w1.alloc (.cells (iar 101 (sqC n (fun _ _ => 0))) 38)) (b + 1) n (fun _ _ => 0) := by unfold SqAt Ia; rw [← z1]; exact heap_alloc_new _ _
  have b2 : Below b w (w1.alloc (.cells (iar 101 (sqC n (fun _ _ => 0))) 38)) := b1.alloc (by omega) _
  have A3 : SqAt (w1.alloc (.cells (iar 101 (sqC n (fun _ _ => 0))) 38)) b 0 (fun _ _ => 0) := (heap_alloc_old _ _ (by omega)).trans A1
  obtain ⟨w2, hw2⟩ : ∃ w2, w1.alloc (.cells (iar 101 (sqC n (fun _ _ => 0))) 38) = w2 := ⟨_, rfl⟩
  rw [hw2] at st A2 b2 A3
  rw [hb] at HS ⊢
  rw [← fillF_zero n f] at A2
  have HB := Lib.hid hb
  have H2 := Lib.hid A2
  have H3 := Lib.hid A3
  have HB2 := Lib.hid b2
  have FS : Hid (∀ x y, y < n → upd2 (fillF n f x y) x y (f x y) = fillF n f x (y + 1)) := fun x y h => fillF_step f h
  have FR : Hid (∀ x, fillF n f x n = fillF n f (x + 1) 0) := fun x => fillF_row n f x
  have FA : Hid (fillF n f n 0 = sqF n f) := fillF_all n f
  clear hc A1 A2 A3 b1 b2
  go_enter Try.func27, Try.ntmps27
  go_wp2
  clear st hw1 hw2
  go_loopw [11] (fun i wr => ∃ x : Nat, x ≤ n ∧ i = .int .i64 x ∧ Hid (SqAt wr (b + 1) n (fillF n f x 0)) ∧ Hid (SqAt wr b 0 (fun _ _ => 0)) ∧ Hid (Below b w wr)) (fun i _ => n - (intOf i).toNat)
  case atStart => exact ⟨0, by omega, rfl, H2, H3, HB2⟩
  case round =>
    obtain ⟨x, hx, rfl, hA, hZ, hBl⟩ := hrel
    by_cases c : x < n
    · have k1 : decide (x < n) = true := by simpa using c
      have k1' : decide ((x : Int) < (n : Int)) = true := decide_eq_true (by omega)
      have w3 := IntWalk.i64_in ((x : Int) + 1) (by omega)
      have x0 : (0 : Int) ≤ (x : Int) := by omega
      have x1 : (x : Int) < 10 := by omega
      obtain ⟨wq, rfl⟩ : ∃ wq : World, wq = wr := ⟨_, rfl⟩
      go_wp2
      go_loopw [15] (fun i wr => ∃ y : Nat, y ≤ n ∧ i = .int .i64 y ∧ Hid (SqAt wr (b + 1) n (fillF n f x y)) ∧ Hid (SqAt wr b 0 (fun _ _ => 0)) ∧ Hid (Below b w wr)) (fun i _ => n - (intOf i).toNat)
      case atStart => exact ⟨0, by omega, rfl, hA, hZ, hBl⟩
      case round =>
        obtain ⟨y, hy, rfl, hA2, hZ2, hBl2⟩ := hrel
        by_cases c2 : y < n
        · have k2 : decide (y < n) = true := by simpa using c2
          have k2' : decide ((y : Int) < (n : Int)) = true := decide_eq_true (by omega)
          have w4 := IntWalk.i64_in ((y : Int) + 1) (by omega)
          have y0 : (0 : Int) ≤ (y : Int) := by omega
          have y1 : (y : Int) < 10 := by omega
          have HC := Lib.hid (fun W h => HS.out W x y h c c2)
          go_wp2
          have HC2 := Lib.hid (HC.out wr.drew hBl2.out.drew)
          have hA3 : Hid (SqAt wr.drew (b + 1) n (fillF n f x y)) := hA2.out
          have hZ3 : Hid (SqAt wr.drew b 0 (fun _ _ => 0)) := hZ2.out
          have hB3 : Hid (Below b w wr.drew) := hBl2.out.drew
          have KEY : Hid (∀ w4, Below wr.drew.heap.size wr.drew w4 → (∃ old, w4.cell? ⟨b + 1, 1 + x * 10 + y, none⟩ = some old) ∧ w4.frozen? ⟨b + 1, 1 + x * 10 + y, none⟩ = false ∧ SqAt (w4.setCell ⟨b + 1, 1 + x * 10 + y, none⟩ (.int .i64 (f x y))) (b + 1) n (fillF n f x (y + 1)) ∧
              SqAt (w4.setCell ⟨b + 1, 1 + x * 10 + y, none⟩ (.int .i64 (f x y))) b 0 (fun _ _ => 0) ∧ Below b w (w4.setCell ⟨b + 1, 1 + x * 10 + y, none⟩ (.int .i64 (f x y)))) := fun w4 b4 => by
            have lt := Ia.lt hA3.out
            have D1 : SqAt w4 (b + 1) n (fillF n f x y) := Ia.below hA3.out b4 lt
            have D2 : SqAt w4 b 0 (fun _ _ => 0) := Ia.below hZ3.out b4 (Ia.lt hZ3.out)
            have D3 : Below b w w4 := hB3.out.trans (b4.mono (by omega))
            refine ⟨⟨_, Ia.cell D1 (1 + x * 10 + y) (by omega)⟩, Ia.frozen D1 _, ?_, (Below.heap_setCell w4 ⟨b + 1, 1 + x * 10 + y, none⟩ _ b (by simp only; omega)).trans D2, D3.setCell (p := ⟨b + 1, 1 + x * 10 + y, none⟩) (by simp only; omega) _⟩
            have := Ia.set D1 (1 + x * 10 + y) (f x y)
            rw [sqC_upd _ _ _ (by omega), FS.out x y c2] at this
            exact this
          obtain ⟨fxy, hfxy⟩ : ∃ z, f x y = z := ⟨_, rfl⟩
          rw [hfxy] at HC2 KEY
          clear HC hfxy
          go_region_held3 (fun _ => True) (first | trivial)
            (first | (refine (HC2.out).mono ?_; rintro e w4 ⟨rfl, b4⟩; obtain ⟨⟨old, f2⟩, f3, f5, f6, f7⟩ := KEY.out w4 b4; have S1 := Lib.hid f5; have S2 := Lib.hid f6; have S3 := Lib.hid f7; clear f5 f6 f7 b4))
          go_wp2
          go_roundw
          case rel => exact ⟨y + 1, by omega, by go_num, S1, S2, S3⟩
          case measure => simp [intOf]; omega
        · have k2 : decide (y < n) = false := by simpa using c2
          have k2' : decide ((y : Int) < (n : Int)) = false := decide_eq_false (by omega)
          obtain rfl : y = n := by omega
          go_wp2
          go_roundw
          case rel => exact ⟨x + 1, by omega, by go_num, by unfold Hid; rw [← FR.out]; exact hA2.out, hZ2, hBl2⟩
          case measure => simp [intOf]; omega
    · have k1 : decide (x < n) = false := by simpa using c
      have k1' : decide ((x : Int) < (n : Int)) = false := decide_eq_false (by omega)
      obtain rfl : x = n := by omega
      have hA' := hA.out
      rw [FA.out] at hA'
      have HA := Lib.hid hA'
      have P2 : Hid (SqAt (wr.setRow b (iar 101 (sqC x (sqF x f)))) b x (sqF x f)) := setRow_heap _ _ _ _ _ _ hZ.out
      clear hA'
      go_upto_region 11 with fail
      refine wp_region_list ?_
      refine wpList_load_row rfl 38 (.tmp 5) rfl _ rfl _ _ _ _ HA.out Try.underlying38 rfl (by rw [iar_size]; exact Try.infoSq) ?_
      refine wpList_store_row rfl 38 (.tmp 4) (.tmp 29) rfl _ (iar 101 (sqC x (sqF x f))) rfl rfl _ _ hZ.out (by rw [iar_size]; exact Try.infoSq) (by rw [iar_size, iar_size]) (iar_one _ _) ?_
      go_wp2
      refine bodyPost_ret (v := sqV x (sqF x f)) (results_cell_row Try.results27 _ _ _ _ _ _ _ rfl P2.out Try.underlying38 rfl (by rw [iar_size]; exact Try.infoSq)) rfl ⟨rfl, ?_⟩
      exact below_row hBl.out (Nat.le_refl _) _
theorem ifilld2 (n : Nat) (hn : n ≤ 10) (w : World) (s : Value) (f : Nat → Nat → Int) (hs : SymOkB w w.heap.size s n f) :
    Calls Try.prog 27 #[.int .i64 n, s] w fun e w' => e = .returned (.agg (iar 101 (sqC n (sqF n f)))) ∧ Below w.heap.size w w' := ifilld n hn w s f hs
end
end
end Go.Proofs.Ytodlcjdbpibacaa
