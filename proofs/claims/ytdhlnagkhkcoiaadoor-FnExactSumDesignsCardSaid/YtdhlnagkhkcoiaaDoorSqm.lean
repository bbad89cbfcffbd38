/- Latin squares: the model's test and grids. -/
import Derived.Test.YtdhlnagkhkcoiaaDoorGrd
import Derived.Test.YtdhlnagkhkcoiaaDoorPn
namespace Go.Proofs.YtdhlnagkhkcoiaaDoor
open Go.RowKit
set_option linter.unusedVariables false

/-- A column. -/
def colL (xss : List (List Int)) (y : Nat) : List Int := xss.map fun r => r.getD y 0
theorem colL_length (xss : List (List Int)) (y : Nat) : (colL xss y).length = xss.length := by simp [colL]
theorem colL_getD {xss : List (List Int)} {x y : Nat} (h : x < xss.length) : (colL xss y).getD x 0 = (xss.getD x []).getD y 0 := by simp [colL, List.getD, h]
theorem colL_take {xss : List (List Int)} {x y : Nat} (h : x < xss.length) : (colL xss y).take (x + 1) = (colL xss y).take x ++ [(xss.getD x []).getD y 0] := by
  have := takeI_getD (xs := colL xss y) (j := x) (by rw [colL_length]; exact h)
  rw [this, colL_getD h]
/-- A Latin square. -/
def rowOk (xss : List (List Int)) (x : Nat) : Prop := (xss.getD x []).length = xss.length ∧ pmB (xss.getD x []) = true
structure IsSq (xss : List (List Int)) : Prop where
  lo : 1 ≤ xss.length
  hi : xss.length ≤ 10
  row : ∀ x, x < xss.length → rowOk xss x
  col : ∀ y, y < xss.length → pmB (colL xss y) = true
noncomputable def sqB (xss : List (List Int)) : Bool := @decide (IsSq xss) (Classical.propDecidable _)
theorem sqB_true {xss : List (List Int)} (h : IsSq xss) : sqB xss = true := @decide_eq_true _ (Classical.propDecidable _) h
theorem sqB_false {xss : List (List Int)} (h : ¬ IsSq xss) : sqB xss = false := @decide_eq_false _ (Classical.propDecidable _) h
theorem of_sqB {xss : List (List Int)} (h : sqB xss = true) : IsSq xss := @of_decide_eq_true _ (Classical.propDecidable _) h

theorem RowsAt.cellsOf {w : World} {v : Value} {xss : List (List Int)} (h : RowsAt w v xss) : ∃ a cap, v = .slice a xss.length cap ∧ xss.length ≤ cap ∧ ∀ j, j < xss.length → ∃ g off u, a = some ⟨g, off, none⟩ ∧ g < w.heap.size ∧ w.cell? ⟨g, off + j, none⟩ = some u ∧ IntsC w u (xss.getD j []) := by
  obtain ⟨_, a, cap, e, hk, hc⟩ := h
  refine ⟨a, cap, e, hk, fun j hj => ?_⟩
  obtain ⟨g, off, u, h1, h2, h3⟩ := hc j hj
  exact ⟨g, off, u, h1, World.block_lt_of_cell? w _ h2, h2, h3⟩
/-- What a cell of rows reads as. -/
theorem RowsAt.at2 {w : World} {v : Value} {xss : List (List Int)} (h : RowsAt w v xss) {x y : Nat} (hx : x < xss.length) (hy : y < (xss.getD x []).length) :
    ∃ g off g2 off2 l2 c2 cap, v = .slice (some ⟨g, off, none⟩) xss.length cap ∧ w.cell? ⟨g, off + x, none⟩ = some (.slice (some ⟨g2, off2, none⟩) l2 c2) ∧ l2 = (xss.getD x []).length ∧ w.cell? ⟨g2, off2 + y, none⟩ = some (.int .i64 ((xss.getD x []).getD y 0)) := by
  obtain ⟨_, a, cap, e, hk, hc⟩ := h
  obtain ⟨g, off, u, h1, h2, h3⟩ := hc x hx
  subst h1
  obtain ⟨a2, c2, e2, _, _, h4⟩ := h3.part
  obtain ⟨g2, off2, h5, _, h6⟩ := h4 y hy
  subst h5
  exact ⟨g, off, g2, off2, _, c2, cap, e, by rw [h2, e2], rfl, h6⟩

set_option maxRecDepth 100000 in
set_option maxHeartbeats 4000000 in
/-- Rows of zeros. -/
theorem sZero (n m : Nat) (hn : n ≤ 1000) (hm : m ≤ 1000) (w : World) :
    Calls Tryd.prog 41 #[.int .i64 n, .int .i64 m] w fun e w' => ∃ r, e = .returned r ∧ RowsL w' w.heap.size w'.heap.size r (gridL n m (fun _ _ => 0)) ∧ Below w.heap.size w w' := by
  have hmk := fun W : World => run_make_row' (P := Tryd.prog) 60 2 (.int .i64 0) 8 Tryd.underlying60 Tryd.infoInt rfl .i64 .i64 m (by omega) (by omega) W
  have hrow : Hid (∀ W : World, Ints (W.alloc (.cells (madeCells #[.int .i64 0] m) 2)) W.heap.size (.slice (some ⟨W.heap.size, 0, none⟩) m m) ((List.range m).map fun _ => (0 : Int))) := fun W => by
    have := World.ownsRow_lit (base := W.heap.size) (e := 2) (size := 1) W (madeCells #[.int .i64 0] m) m (Nat.le_refl _) (by unfold maxLen; omega) (by simp [size_madeCells])
    rw [toList_madeCells_one] at this
    have e : ((List.range m).map fun _ => (0 : Int)).map (Value.int .i64) = List.replicate m (.int .i64 0) := by rw [List.map_const', List.length_range, List.map_replicate]
    unfold Ints
    rw [rowf_length, e]
    exact this
  have GS : Hid (∀ j, gridL (j + 1) m (fun _ _ => 0) = gridL j m (fun _ _ => 0) ++ [(List.range m).map fun _ => (0 : Int)]) := fun j => gridL_succ j m _
  have GL : Hid (∀ j, (gridL j m (fun _ _ => 0)).length = j) := fun j => gridL_length j m _
  obtain ⟨R, hR⟩ : ∃ R, ((List.range m).map fun _ => (0 : Int)) = R := ⟨_, rfl⟩
  rw [hR] at hrow GS
  have HMK := Lib.hid hmk
  clear hR hmk
  go_enter Tryd.func41, Tryd.ntmps41
  go_wp2
  obtain ⟨B, hB⟩ : ∃ B, w.heap.size = B := ⟨_, rfl⟩
  have b1 : Hid (Below B w (w.alloc (.cells #[] 60))) := (Below.refl _ _).alloc (by omega) _
  have R1 : Hid (RowsL (w.alloc (.cells #[] 60)) B (w.alloc (.cells #[] 60)).heap.size (.slice (some ⟨B, 0, none⟩) 0 0) (gridL 0 m (fun _ _ => 0))) := by
    have := RowsL.made w B 0 #[] (by omega) (by decide) rfl
    rw [hB] at this
    rw [World.size_alloc, hB]
    exact this
  rw [hB]
  obtain ⟨w1, hw1⟩ : ∃ w1, w.alloc (.cells #[] 60) = w1 := ⟨_, rfl⟩
  rw [hw1] at b1 R1 ⊢
  have z1 : B ≤ w1.heap.size := by have := b1.out.size; omega
  have HE := Lib.hid hB
  clear hw1 hB
  go_loopw [5, 6] (fun ov i wr => ∃ j : Nat, j ≤ n ∧ i = .int .i64 j ∧ Hid (RowsL wr B wr.heap.size ov (gridL j m (fun _ _ => 0))) ∧ Hid (Below B w wr) ∧ B ≤ wr.heap.size) (fun _ i _ => n - (intOf i).toNat)
  case atStart => exact ⟨0, by omega, rfl, R1, b1, z1⟩
  case round =>
    obtain ⟨j, hj, rfl, hRw, hBl, hz⟩ := hrel
    by_cases c : j < n
    · have k1 : decide (j < n) = true := by simpa using c
      have k1' : decide ((j : Int) < (n : Int)) = true := decide_eq_true (by omega)
      have j0 : (0 : Int) ≤ (j : Int) := by omega
      have w3 := IntWalk.i64_in ((j : Int) + 1) (by omega)
      have gl := GL.out j
      have gs := Lib.hid (GS.out j)
      have mk := HMK.out wr
      have M1 := Lib.hid (hrow.out wr)
      have bm : Hid (Below wr.heap.size wr (wr.alloc (.cells (madeCells #[.int .i64 0] m) 2))) := (Below.refl _ _).alloc (Nat.le_refl _) _
      have R2 : Hid (RowsL (wr.alloc (.cells (madeCells #[.int .i64 0] m) 2)) B wr.heap.size u5 (gridL j m (fun _ _ => 0))) := hRw.out.below bm.out (Nat.le_refl _)
      obtain ⟨wm, hwm⟩ : ∃ wm, wr.alloc (.cells (madeCells #[.int .i64 0] m) 2) = wm := ⟨_, rfl⟩
      rw [hwm] at mk M1 bm R2
      clear hwm
      go_wp2_with (at_builtin; refine wpList_pushR wm (by rfl) _ _ (by rfl) B wr.heap.size _ _ _ _ (by rfl) R2.out M1.out _ (by rfl) (by rw [gl]; omega) hz ?_; intro v' w6 hn hb; have HN := Lib.hid hn; have HB6 := Lib.hid hb; clear hn hb)
      go_roundw
      case rel => exact ⟨j + 1, by omega, by go_num, by unfold Hid; rw [gs.out]; exact HN.out, hBl.out.trans ((bm.out.mono hz).trans HB6.out), Nat.le_trans hz (Nat.le_trans bm.out.size HB6.out.size)⟩
      case measure => simp [intOf]; omega
    · have k1 : decide (j < n) = false := by simpa using c
      have k1' : decide ((j : Int) < (n : Int)) = false := decide_eq_false (by omega)
      obtain rfl : j = n := by omega
      go_wp2
      go_ret
      exact ⟨_, rfl, by rw [HE.out]; exact hRw.out, by rw [HE.out]; exact hBl.out⟩
end Go.Proofs.YtdhlnagkhkcoiaaDoor
