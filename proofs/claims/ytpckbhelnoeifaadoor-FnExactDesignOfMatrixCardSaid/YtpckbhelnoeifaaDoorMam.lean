/- DesignOfMatrix: the model. -/
import Derived.Test.YtpckbhelnoeifaaDoorDlw
import Derived.Test.YtpckbhelnoeifaaDoorInd
namespace Go.Proofs.YtpckbhelnoeifaaDoor
open Go.RowKit Go.Shelf
set_option linter.unusedVariables false
set_option linter.unusedSimpArgs false

/-- A row of a matrix with M columns. -/
def mxRow (M : Nat) (r : List Int) : Prop := r.length = M ∧ ∀ k, k < M → r.getD k 0 = 0 ∨ r.getD k 0 = 1
/-- A matrix of a design. -/
def matOk (xss : List (List Int)) : Prop := 1 ≤ xss.length ∧ xss.length ≤ 32 ∧ (xss.getD 0 []).length ≤ 128 ∧ ∀ i, i < xss.length → mxRow (xss.getD 0 []).length (xss.getD i [])
noncomputable def matB (xss : List (List Int)) : Bool := @decide (matOk xss) (Classical.propDecidable _)
theorem matB_true {xss : List (List Int)} (h : matOk xss) : matB xss = true := @decide_eq_true _ (Classical.propDecidable _) h
theorem matB_false {xss : List (List Int)} (h : ¬ matOk xss) : matB xss = false := @decide_eq_false _ (Classical.propDecidable _) h
theorem of_matB {xss : List (List Int)} (h : matB xss = true) : matOk xss := @of_decide_eq_true _ (Classical.propDecidable _) h
/-- The column k has a 1 in the row i. -/
def maP (xss : List (List Int)) (k i : Nat) : Bool := decide ((xss.getD i []).getD k 0 = 1)
noncomputable def DesignOfMatrix_N (xss : List (List Int)) : Int := if matB xss then dxN xss.length (setsL (xss.getD 0 []).length xss.length (maP xss)) else 0
noncomputable def DesignOfMatrix_L (xss : List (List Int)) : List (List Int) := if matB xss then dxL (setsL (xss.getD 0 []).length xss.length (maP xss)) else []
noncomputable def DesignOfMatrix_C (xss : List (List Int)) : Int := if matB xss then dxC (setsL (xss.getD 0 []).length xss.length (maP xss)) else 1
theorem mat_no {xss : List (List Int)} (h : ¬ matOk xss) : DesignOfMatrix_N xss = 0 ∧ DesignOfMatrix_L xss = [] ∧ DesignOfMatrix_C xss = 1 := by
  unfold DesignOfMatrix_N DesignOfMatrix_L DesignOfMatrix_C; rw [matB_false h]; exact ⟨rfl, rfl, rfl⟩
theorem mat_yes {xss : List (List Int)} (h : matOk xss) : DesignOfMatrix_N xss = dxN xss.length (setsL (xss.getD 0 []).length xss.length (maP xss)) ∧ DesignOfMatrix_L xss = dxL (setsL (xss.getD 0 []).length xss.length (maP xss)) ∧ DesignOfMatrix_C xss = dxC (setsL (xss.getD 0 []).length xss.length (maP xss)) := by
  unfold DesignOfMatrix_N DesignOfMatrix_L DesignOfMatrix_C; rw [matB_true h]; exact ⟨rfl, rfl, rfl⟩
theorem totDesignOfMatrix (xss : List (List Int)) : tot (DesignOfMatrix_L xss) ≤ 5000 := by
  unfold DesignOfMatrix_L
  split
  · rename_i h
    have d := of_matB h
    have a := (dxL_tot (setsL (xss.getD 0 []).length xss.length (maP xss))).1
    have b := setsL_tot (xss.getD 0 []).length xss.length (maP xss)
    have c : (xss.getD 0 []).length * xss.length ≤ 128 * 32 := Nat.mul_le_mul d.2.2.1 d.2.1
    omega
  · simp [tot]

theorem IntsAt.atIn {W : World} {a : Option Addr} {l c : Nat} {xs : List Int} (h : IntsAt W (.slice a l c) xs) {j : Nat} (hj : j < xs.length) : ∃ g o, a = some ⟨g, o, none⟩ ∧ W.cell? ⟨g, o + j, none⟩ = some (.int .i64 (xs.getD j 0)) := by
  obtain ⟨a', c', e, -, hc⟩ := h.shape
  injection e with e1 e2 e3
  subst e1
  obtain ⟨g, o, e4, e5⟩ := hc j hj
  exact ⟨g, o, e4, e5⟩

set_option maxRecDepth 100000 in
set_option maxHeartbeats 4000000 in
theorem sDesignOfMatrix (xss : List (List Int)) (W : World) (v : Value) (hv : RowsAt W v xss) :
    Calls Tryd.prog 41 #[v] W fun e w' => ∃ z, e = .returned (.tuple #[.agg #[.int .i64 (DesignOfMatrix_N xss), z], .int .i64 (DesignOfMatrix_C xss)]) ∧ RowsL w' W.heap.size w'.heap.size z (DesignOfMatrix_L xss) ∧ Below W.heap.size W w' := by
  have hml := hv.1
  obtain ⟨a, cap, rfl, K⟩ := hv.rowsIn
  obtain ⟨N, hN⟩ : ∃ m, xss.length = m := ⟨_, rfl⟩
  rw [hN] at hml K ⊢
  obtain ⟨B, hB⟩ : ∃ B, W.heap.size = B := ⟨_, rfl⟩
  rw [hB] at K
  obtain ⟨w1, hw1⟩ : ∃ w1, W.alloc (.cells #[.int .i64 0, .slice none 0 0] 30) = w1 := ⟨_, rfl⟩
  have z1 : w1.heap.size = B + 1 := by rw [← hw1, World.size_alloc, hB]
  have b1 : Below B W w1 := by rw [← hw1]; exact (Below.refl _ _).alloc (by omega) _
  have R1 : w1.heap[B]? = some (.cells #[.int .i64 0, .slice none 0 0] 30 (0, 0)) := by rw [← hw1, ← hB]; exact heap_alloc_new _ _
  have HB := Lib.hid hB
  have HIn := Lib.hid (in_any (N : Int) 1 32 w1)
  have wN := IntWalk.i64_in (N : Int) (by omega)
  have NOT : Hid ((1 ≤ N ∧ N ≤ 32 ∧ (xss.getD 0 []).length ≤ 128 → ∃ i, i < N ∧ ¬ mxRow (xss.getD 0 []).length (xss.getD i [])) → DesignOfMatrix_N xss = 0 ∧ DesignOfMatrix_L xss = [] ∧ DesignOfMatrix_C xss = 1) := fun h => mat_no fun k => by
    obtain ⟨i, hi, e⟩ := h ⟨by have := k.1; omega, by have := k.2.1; omega, k.2.2.1⟩
    exact e (k.2.2.2 i (by omega))
  have YES : Hid (1 ≤ N ∧ N ≤ 32 ∧ (xss.getD 0 []).length ≤ 128 ∧ (∀ i, i < N → mxRow (xss.getD 0 []).length (xss.getD i [])) → DesignOfMatrix_N xss = dxN N (setsL (xss.getD 0 []).length N (maP xss)) ∧ DesignOfMatrix_L xss = dxL (setsL (xss.getD 0 []).length N (maP xss)) ∧ DesignOfMatrix_C xss = dxC (setsL (xss.getD 0 []).length N (maP xss))) := fun h => by
    have := mat_yes (xss := xss) ⟨by omega, by omega, h.2.2.1, fun i hi => h.2.2.2 i (by omega)⟩
    rw [hN] at this; exact this
  by_cases hr : 1 ≤ N ∧ N ≤ 32
  · have hr2 : 1 ≤ (N : Int) ∧ (N : Int) ≤ 32 := by omega
    rw [decide_eq_true hr2] at HIn
    have B1 := Lib.hid b1
    have HR1 := Lib.hid R1
    obtain ⟨M, hM⟩ : ∃ M, (xss.getD 0 []).length = M := ⟨_, rfl⟩
    rw [hM] at NOT YES
    have BW : Hid (∀ W2, Below (B + 1) w1 W2 → Below B W W2) := fun W2 h => b1.trans (h.mono (by omega))
    have RW : Hid (∀ W2, Below (B + 1) w1 W2 → W2.heap[B]? = some (.cells #[.int .i64 0, .slice none 0 0] 30 (0, 0))) := fun W2 h => (h.block B (by omega)).trans R1
    have ZZ : Hid (w1.heap.size = B + 1) := z1
    have HH : Hid (∀ W2, Below B W W2 → ∀ j, j < N → ∃ g1 o1 ua uc, a = some ⟨g1, o1, none⟩ ∧ W2.cell? ⟨g1, o1 + j, none⟩ = some (.slice ua (xss.getD j []).length uc)) := fun W2 hW j hj => by
      obtain ⟨g1, o1, u, e1, e2, e3⟩ := K W2 hW j hj
      obtain ⟨ua, uc, e4, -, -⟩ := e3.shape
      exact ⟨g1, o1, ua, uc, e1, by rw [e2, e4]⟩
    have HC : Hid (∀ W2, Below B W W2 → ∀ j, j < N → ∀ k, k < (xss.getD j []).length → ∃ g1 o1 g2 o2 uc, a = some ⟨g1, o1, none⟩ ∧ W2.cell? ⟨g1, o1 + j, none⟩ = some (.slice (some ⟨g2, o2, none⟩) (xss.getD j []).length uc) ∧ W2.cell? ⟨g2, o2 + k, none⟩ = some (.int .i64 ((xss.getD j []).getD k 0))) := fun W2 hW j hj k hk => by
      obtain ⟨g1, o1, u, e1, e2, e3⟩ := K W2 hW j hj
      obtain ⟨ua, uc, e4, -, -⟩ := e3.shape
      subst e4
      obtain ⟨g2, o2, rfl, e5⟩ := e3.atIn hk
      exact ⟨g1, o1, g2, o2, uc, e1, e2, e5⟩
    have N1 : 1 ≤ N := hr.1
    have N32 : N ≤ 32 := hr.2
    have HI := Lib.hid (fun (v : Int) W2 => in_any v 0 1 W2)
    have Z0 : Hid (Below (B + 1) w1 w1) := Below.refl _ _
    clear b1 R1 hv K hr2
    go_enter Tryd.func41, Tryd.ntmps41
    go_wp2_with fail
    try rw [hw1]
    refine HIn.out.mono ?_
    rintro e w2 ⟨rfl, rfl⟩
    clear hw1
    go_wp2
    go_loopw [4] (fun i wr => ∃ x : Nat, x ≤ N ∧ i = .int .i64 x ∧ Hid (∀ j, j < x → mxRow M (xss.getD j [])) ∧ Hid (0 < x → M ≤ 128) ∧ Hid (Below (B + 1) w1 wr)) (fun i _ => N - (intOf i).toNat)
    case atStart => exact ⟨0, by omega, rfl, fun j hj => by omega, fun h => by omega, Z0⟩
    case round =>
      obtain ⟨x, hx, rfl, hRw, hM8, hBl⟩ := hrel
      obtain ⟨g1, o1, ua, uc, rfl, e20⟩ := HH.out wr (BW.out wr hBl.out) 0 (by omega)
      rw [Nat.add_zero, hM] at e20
      by_cases cx : x < N
      · have k1 : decide (x < N) = true := by simpa using cx
        have k1' : decide ((x : Int) < (N : Int)) = true := decide_eq_true (by omega)
        have wx := IntWalk.i64_in ((x : Int) + 1) (by omega)
        have x0 : (0 : Int) ≤ (x : Int) := by omega
        have x1 : (x : Int) < (N : Int) := by omega
        have x2 : (0 : Int) < (N : Int) := by omega
        have x3 : 0 < N := by omega
        obtain ⟨g1', o1', va, vc, h0, e2⟩ := HH.out wr (BW.out wr hBl.out) x cx
        injection h0 with h0
        injection h0 with h1 h2
        subst h1 h2
        obtain ⟨l, hl⟩ : ∃ l, (xss.getD x []).length = l := ⟨_, rfl⟩
        rw [hl] at e2
        by_cases q : l = M
        · subst q
          have q1 : ((l : Int) != (l : Int)) = false := by simp
          have q2 : (l != l) = false := by simp
          by_cases q8 : 128 < l
          · have t4 : decide ((l : Int) > 128) = true := decide_eq_true (by omega)
            have t5 : decide ((128 : Int) < (l : Int)) = true := decide_eq_true (by omega)
            have t6 : decide (128 < l) = true := decide_eq_true (by omega)
            have V := Lib.hid (NOT.out fun k => absurd k.2.2 (by omega))
            clear hl q8
            go_wp2
            go_quiet (fail)
            obtain ⟨w4, hw4⟩ : ∃ w4, wr.drewN nq = w4 := ⟨_, rfl⟩
            have D4 : Hid (Below (B + 1) w1 w4) := by rw [← hw4]; exact below_drewN hBl.out _
            have RX := Lib.hid (RW.out w4 D4.out)
            have BX := Lib.hid (BW.out w4 D4.out)
            try rw [hw4]
            clear hw4 e2 e20
            have f0 := frozen_of_row w4 (B) 0 _ _ RX.out
            have f1 := frozen_of_row w4 (B) 1 _ _ RX.out
            have d0 : w4.cell? ⟨B, 0, none⟩ = some (.int .i64 0) := by rw [cell_of_row w4 (B) 0 _ _ _ RX.out]; rfl
            have d1 : w4.cell? ⟨B, 1, none⟩ = some (.slice none 0 0) := by rw [cell_of_row w4 (B) 1 _ _ _ RX.out]; rfl
            go_wp2
            have R9 := set2_row w4 (B) _ _ (.int .i64 0) (.slice none 0 0) _ RX.out
            have B9 := (BX.out.setCell (p := ⟨B, 0, none⟩) (by simp only; omega) (.int .i64 0)).setCell (p := ⟨B, 1, none⟩) (by simp only; omega) (.slice none 0 0)
            have hld := run_loadVar_row (P := Tryd.prog) _ _ 30 30 #[.int .i64 0, .slice none 0 0] (0, 0) _ R9 Tryd.underlying30 rfl Tryd.infoDes
            refine bodyPost_ret (v := .tuple #[.agg #[.int .i64 0, .slice none 0 0], .int .i64 1]) ?_ rfl ⟨_, by rw [V.out.1, V.out.2.2], ?_, by rw [HB.out]; exact B9⟩
            · rw [results_cell_tmp rfl]
              simp [asAddr, Result.andThen, hld]
            · rw [V.out.2.1]; exact RowsL.nil _ _ _ (Nat.le_refl _)
          · have t4 : decide ((l : Int) > 128) = false := decide_eq_false (by omega)
            have t5 : decide ((128 : Int) < (l : Int)) = false := decide_eq_false (by omega)
            have t6 : decide (128 < l) = false := decide_eq_false (by omega)
            go_wp2
            go_quiet (fail)
            obtain ⟨w4, hw4⟩ : ∃ w4, wr.drewN nq = w4 := ⟨_, rfl⟩
            have D4 : Hid (Below (B + 1) w1 w4) := by rw [← hw4]; exact below_drewN hBl.out _
            have RX := Lib.hid (RW.out w4 D4.out)
            have BX := Lib.hid (BW.out w4 D4.out)
            try rw [hw4]
            clear hw4 e2 e20
            go_wp2
            go_loopw [5] (fun i w6 => ∃ y : Nat, y ≤ l ∧ i = .int .i64 y ∧ Hid (∀ j, j < y → (xss.getD x []).getD j 0 = 0 ∨ (xss.getD x []).getD j 0 = 1) ∧ Hid (Below (B + 1) w1 w6)) (fun i _ => l - (intOf i).toNat)
            case atStart => exact ⟨0, by omega, rfl, fun j hj => by omega, D4⟩
            case round =>
              clear RX BX
              obtain ⟨y, hy, rfl, hCl, hBi⟩ := hrel
              by_cases cy : y < l
              · have k2 : decide (y < l) = true := by simpa using cy
                have k2' : decide ((y : Int) < (l : Int)) = true := decide_eq_true (by omega)
                have wy := IntWalk.i64_in ((y : Int) + 1) (by omega)
                have y0 : (0 : Int) ≤ (y : Int) := by omega
                have y1 : (y : Int) < (l : Int) := by omega
                obtain ⟨g1', o1', g2, o2, vc', h0, e2', e3⟩ := HC.out wr (BW.out wr hBi.out) x cx y (by omega)
                injection h0 with h0
                injection h0 with h1 h2
                subst h1 h2
                rw [hl] at e2'
                obtain ⟨z, hz⟩ : ∃ z, (xss.getD x []).getD y 0 = z := ⟨_, rfl⟩
                rw [hz] at e3
                have HI2 := Lib.hid (HI.out z wr)
                by_cases cz : 0 ≤ z ∧ z ≤ 1
                · rw [decide_eq_true cz] at HI2
                  have CL2 : Hid (∀ j, j < y + 1 → (xss.getD x []).getD j 0 = 0 ∨ (xss.getD x []).getD j 0 = 1) := fun j hj => by
                    by_cases e : j = y
                    · subst e; omega
                    · exact hCl.out j (by omega)
                  clear hz cz
                  go_wp2_with fail
                  refine HI2.out.mono ?_
                  rintro e w7 ⟨rfl, rfl⟩
                  go_wp2
                  go_roundw
                  case rel => exact ⟨y + 1, by omega, by go_num, CL2, hBi⟩
                  case measure => simp [intOf]; omega
                · rw [decide_eq_false cz] at HI2
                  have V := Lib.hid (NOT.out fun k => ⟨x, cx, fun h => by have := h.2 y cy; omega⟩)
                  have RX := Lib.hid (RW.out wr hBi.out)
                  have BX := Lib.hid (BW.out wr hBi.out)
                  clear hz cz hl
                  go_wp2_with fail
                  refine HI2.out.mono ?_
                  rintro e w7 ⟨rfl, rfl⟩
                  have f0 := frozen_of_row wr (B) 0 _ _ RX.out
                  have f1 := frozen_of_row wr (B) 1 _ _ RX.out
                  have d0 : wr.cell? ⟨B, 0, none⟩ = some (.int .i64 0) := by rw [cell_of_row wr (B) 0 _ _ _ RX.out]; rfl
                  have d1 : wr.cell? ⟨B, 1, none⟩ = some (.slice none 0 0) := by rw [cell_of_row wr (B) 1 _ _ _ RX.out]; rfl
                  go_wp2
                  have R9 := set2_row wr (B) _ _ (.int .i64 0) (.slice none 0 0) _ RX.out
                  have B9 := (BX.out.setCell (p := ⟨B, 0, none⟩) (by simp only; omega) (.int .i64 0)).setCell (p := ⟨B, 1, none⟩) (by simp only; omega) (.slice none 0 0)
                  have hld := run_loadVar_row (P := Tryd.prog) _ _ 30 30 #[.int .i64 0, .slice none 0 0] (0, 0) _ R9 Tryd.underlying30 rfl Tryd.infoDes
                  refine bodyPost_ret (v := .tuple #[.agg #[.int .i64 0, .slice none 0 0], .int .i64 1]) ?_ rfl ⟨_, by rw [V.out.1, V.out.2.2], ?_, by rw [HB.out]; exact B9⟩
                  · rw [results_cell_tmp rfl]
                    simp [asAddr, Result.andThen, hld]
                  · rw [V.out.2.1]; exact RowsL.nil _ _ _ (Nat.le_refl _)
              · have k2 : decide (y < l) = false := by simpa using cy
                have k2' : decide ((y : Int) < (l : Int)) = false := decide_eq_false (by omega)
                obtain rfl : y = l := by omega
                have RR2 : Hid (∀ j, j < x + 1 → mxRow y (xss.getD j [])) := fun j hj => by
                  by_cases e : j = x
                  · subst e; exact ⟨hl, hCl.out⟩
                  · exact hRw.out j (by omega)
                have q9 : Hid (0 < x + 1 → y ≤ 128) := fun _ => by omega
                obtain ⟨g1', o1', va', vc', h0, e2⟩ := HH.out wr (BW.out wr hBi.out) x cx
                injection h0 with h0
                injection h0 with h1 h2
                subst h1 h2
                rw [hl] at e2
                clear hl q8
                go_wp2
                go_roundw
                case rel => exact ⟨x + 1, by omega, by go_num, RR2, q9, hBi⟩
                case measure => simp [intOf]; omega
        · have q1 : ((l : Int) != (M : Int)) = true := by simp; omega
          have q2 : (l != M) = true := by simp; omega
          have V := Lib.hid (NOT.out fun k => ⟨x, cx, fun h => q (hl.symm.trans h.1)⟩)
          clear hl q
          go_wp2
          go_quiet (fail)
          obtain ⟨w4, hw4⟩ : ∃ w4, wr.drewN nq = w4 := ⟨_, rfl⟩
          have D4 : Hid (Below (B + 1) w1 w4) := by rw [← hw4]; exact below_drewN hBl.out _
          have RX := Lib.hid (RW.out w4 D4.out)
          have BX := Lib.hid (BW.out w4 D4.out)
          try rw [hw4]
          clear hw4 e2 e20
          have f0 := frozen_of_row w4 (B) 0 _ _ RX.out
          have f1 := frozen_of_row w4 (B) 1 _ _ RX.out
          have d0 : w4.cell? ⟨B, 0, none⟩ = some (.int .i64 0) := by rw [cell_of_row w4 (B) 0 _ _ _ RX.out]; rfl
          have d1 : w4.cell? ⟨B, 1, none⟩ = some (.slice none 0 0) := by rw [cell_of_row w4 (B) 1 _ _ _ RX.out]; rfl
          go_wp2
          have R9 := set2_row w4 (B) _ _ (.int .i64 0) (.slice none 0 0) _ RX.out
          have B9 := (BX.out.setCell (p := ⟨B, 0, none⟩) (by simp only; omega) (.int .i64 0)).setCell (p := ⟨B, 1, none⟩) (by simp only; omega) (.slice none 0 0)
          have hld := run_loadVar_row (P := Tryd.prog) _ _ 30 30 #[.int .i64 0, .slice none 0 0] (0, 0) _ R9 Tryd.underlying30 rfl Tryd.infoDes
          refine bodyPost_ret (v := .tuple #[.agg #[.int .i64 0, .slice none 0 0], .int .i64 1]) ?_ rfl ⟨_, by rw [V.out.1, V.out.2.2], ?_, by rw [HB.out]; exact B9⟩
          · rw [results_cell_tmp rfl]
            simp [asAddr, Result.andThen, hld]
          · rw [V.out.2.1]; exact RowsL.nil _ _ _ (Nat.le_refl _)
      · have k1 : decide (x < N) = false := by simpa using cx
        have k1' : decide ((x : Int) < (N : Int)) = false := decide_eq_false (by omega)
        obtain rfl : x = N := by omega
        have HR2 : Hid (∀ i, i < x → mxRow M (xss.getD i [])) := hRw
        have M8 := hM8.out (by omega)
        have V0 := Lib.hid (YES.out ⟨N1, N32, M8, hRw.out⟩)
        have H0 : Hid (∀ W2, Below B W W2 → ∃ ua uc, W2.cell? ⟨g1, o1, none⟩ = some (.slice ua M uc)) := fun W2 hW => by
          obtain ⟨g3, o3, ua, uc, h0, e2⟩ := HH.out W2 hW 0 (by omega)
          injection h0 with h0
          injection h0 with h1 h2
          subst h1 h2
          rw [Nat.add_zero, hM] at e2
          exact ⟨ua, uc, e2⟩
        have H2 : Hid (∀ W2, Below B W W2 → ∀ j, j < x → ∀ k, k < M → ∃ g2 o2 uc, W2.cell? ⟨g1, o1 + j, none⟩ = some (.slice (some ⟨g2, o2, none⟩) M uc) ∧ W2.cell? ⟨g2, o2 + k, none⟩ = some (.int .i64 ((xss.getD j []).getD k 0))) := fun W2 hW j hj k hk => by
          obtain ⟨g3, o3, g2, o2, uc, h0, e2, e3⟩ := HC.out W2 hW j hj k (by rw [(hRw.out j hj).1]; exact hk)
          injection h0 with h0
          injection h0 with h1 h2
          subst h1 h2
          rw [(hRw.out j hj).1] at e2
          exact ⟨g2, o2, uc, e2, e3⟩
        obtain ⟨F, hF⟩ : ∃ F, maP xss = F := ⟨_, rfl⟩
        have FV : Hid (∀ k j, F k j = decide ((xss.getD j []).getD k 0 = 1)) := fun k j => by rw [← hF]; rfl
        rw [hF] at V0
        have GS : Hid (∀ k, setsL (k + 1) x F = setsL k x F ++ [fls x (F k)]) := fun k => setsL_succ k x F
        have GL : Hid (∀ k, (setsL k x F).length = k) := fun k => setsL_len k x F
        have RS : Hid (∀ k j, fls (j + 1) (F k) = fls j (F k) ++ if F k j then [(j : Int)] else []) := fun k j => fls_succ j (F k)
        have RL : Hid (∀ k j, (fls j (F k)).length ≤ j) := fun k j => fls_len j (F k)
        have VE : Hid (∀ k, k < M → fls x (F k) = [] → dxN (x : Int) (setsL M x F) = 0 ∧ dxL (setsL M x F) = [] ∧ dxC (setsL M x F) = 6) := fun k hk e =>
          dx_empty x (anyE_true (i := k) (by rw [setsL_len]; exact hk) (by rw [setsL_at M x F k hk]; exact e))
        have VM : Hid ((∀ k, k < M → fls x (F k) ≠ []) → mkN (x : Int) (setsL M x F) = dxN (x : Int) (setsL M x F) ∧ mkL (x : Int) (setsL M x F) = dxL (setsL M x F) ∧ mkC (x : Int) (setsL M x F) = dxC (setsL M x F)) := fun h =>
          dx_mk (by omega) (by omega) (anyE_false fun i hi => by rw [setsL_len] at hi; rw [setsL_at M x F i hi]; exact h i hi) (fun i hi => by rw [setsL_len] at hi; rw [setsL_at M x F i hi]; exact fls_rises x (F i))
        have HM := Lib.hid (fun W2 u (h : RowsAt W2 u (setsL M x F)) => sMake (x : Int) (by omega) (by omega) (setsL M x F) (by rw [setsL_len]; omega) (fun i hi => by rw [setsL_len] at hi; rw [setsL_at M x F i hi]; have := fls_len x (F i); omega) W2 u h)
        obtain ⟨vn, hvn⟩ : ∃ z, dxN (x : Int) (setsL M x F) = z := ⟨_, rfl⟩
        obtain ⟨vl, hvl⟩ : ∃ z, dxL (setsL M x F) = z := ⟨_, rfl⟩
        obtain ⟨vc, hvc⟩ : ∃ z, dxC (setsL M x F) = z := ⟨_, rfl⟩
        rw [hvn, hvl, hvc] at V0 VE VM
        obtain ⟨w5, hw5⟩ : ∃ w5, w5 = wr := ⟨_, rfl⟩
        have zr : B + 1 ≤ wr.heap.size := by have := hBl.out.size; have := ZZ.out; omega
        have M0 : Hid (RowsL (wr.alloc (.cells #[] 47)) (B + 1) (wr.alloc (.cells #[] 47)).heap.size (.slice (some ⟨wr.heap.size, 0, none⟩) 0 0) (setsL 0 x F)) := by
          have := RowsL.made wr (B + 1) 0 #[] zr (by decide) rfl
          rw [← World.size_alloc wr (.cells #[] 47)] at this
          exact this
        have B3 : Hid (Below (B + 1) w1 (wr.alloc (.cells #[] 47))) := hBl.out.alloc zr _
        obtain ⟨w3, hw3⟩ : ∃ w3, wr.alloc (.cells #[] 47) = w3 := ⟨_, rfl⟩
        rw [hw3] at M0 B3
        clear hF hvn hvl hvc hRw hM8 hr hB hw5 e20
        go_wp2
        try rw [hw3]
        clear hw3
        clear HH HC HR2
        go_loopw [6, 7] (fun rv i wr => ∃ k : Nat, k ≤ M ∧ i = .int .i64 k ∧ Hid (RowsL wr (B + 1) wr.heap.size rv (setsL k x F)) ∧ Hid (Below (B + 1) w1 wr) ∧ Hid (∀ q, q < k → fls x (F q) ≠ [])) (fun _ i _ => M - (intOf i).toNat)
        case atStart => exact ⟨0, by omega, rfl, M0, B3, fun k hk => by omega⟩
        case round =>
          obtain ⟨k, hk, rfl, hR, hBl, hNE⟩ := hrel
          obtain ⟨ua, uc, e20⟩ := H0.out wr (BW.out wr hBl.out)
          by_cases ck : k < M
          · have k1 : decide (k < M) = true := by simpa using ck
            have k1' : decide ((k : Int) < (M : Int)) = true := decide_eq_true (by omega)
            have w4 := IntWalk.i64_in ((k : Int) + 1) (by omega)
            have gk := GL.out k
            have SX := Lib.hid (GS.out k)
            have VX := Lib.hid (VE.out k ck)
            have bz : B + 1 ≤ wr.heap.size := by have := hBl.out.size; have := ZZ.out; omega
            obtain ⟨b, hb⟩ : ∃ b, wr.heap.size = b := ⟨_, rfl⟩
            rw [hb] at bz hR
            have I0 : Hid (Ints (wr.alloc (.cells #[] 2)) b (.slice (some ⟨b, 0, none⟩) 0 0) (fls 0 (F k))) := by
              rw [← hb]; exact World.ownsRow_made wr #[] 0 (Nat.le_refl _) (by decide) rfl
            have B4 : Hid (Below b wr (wr.alloc (.cells #[] 2))) := by unfold Hid; rw [← hb]; exact (Below.refl _ _).alloc (Nat.le_refl _) _
            obtain ⟨wq, rfl⟩ : ∃ wq : World, wq = wr := ⟨_, rfl⟩
            obtain ⟨w5, hw5⟩ : ∃ w5, wq.alloc (.cells #[] 2) = w5 := ⟨_, rfl⟩
            rw [hw5] at I0 B4
            have NX : Hid (∀ W2, Below b wq W2 → RowsL W2 (B + 1) b u6 (setsL k x F) ∧ Below (B + 1) w1 W2 ∧ b ≤ W2.heap.size) := fun W2 h => ⟨hR.out.below h (Nat.le_of_eq hb), hBl.out.trans (h.mono bz), by have := h.size; omega⟩
            go_wp2
            try rw [hw5]
            try rw [hb]
            clear e20 hw5 hb
            go_loopw [8, 9] (fun rv i w6 => ∃ j : Nat, j ≤ x ∧ i = .int .i64 j ∧ Hid (Ints w6 b rv (fls j (F k))) ∧ Hid (Below b wq w6)) (fun _ i _ => x - (intOf i).toNat)
            case atStart => exact ⟨0, by omega, rfl, I0, B4⟩
            case round =>
              obtain ⟨j, hj, rfl, hI, hB6⟩ := hrel
              obtain ⟨NR, NB, nz⟩ := NX.out wr hB6.out
              by_cases cj : j < x
              · have k3 : decide (j < x) = true := by simpa using cj
                have k3' : decide ((j : Int) < (x : Int)) = true := decide_eq_true (by omega)
                have w5 := IntWalk.i64_in ((j : Int) + 1) (by omega)
                have j0 : (0 : Int) ≤ (j : Int) := by omega
                have j1 : (j : Int) < (x : Int) := by omega
                have j2 : (0 : Int) ≤ (k : Int) := by omega
                have j3 : (k : Int) < (M : Int) := by omega
                obtain ⟨g2, o2, uc2, e2, e3⟩ := H2.out wr (BW.out wr NB) j cj k ck
                have RX := RS.out k j
                rw [FV.out k j] at RX
                have lj := RL.out k j
                have LJ : (fls j (F k)).length < 1000000000000 := by omega
                obtain ⟨z, hz⟩ : ∃ z, (xss.getD j []).getD k 0 = z := ⟨_, rfl⟩
                rw [hz] at e3 RX
                clear hz NR NB lj
                by_cases cz : z = 1
                · have q1 : (z == 1) = true := by simp; exact cz
                  have RX2 : Hid (fls (j + 1) (F k) = fls j (F k) ++ [(j : Int)]) := by unfold Hid; rw [RX, decide_eq_true cz]; simp
                  clear RX cz
                  go_wp2_with (at_builtin; refine wpList_push wr (by rfl) _ _ (by rfl) b _ _ (by rfl) hI.out (j : Int) _ (by rfl) LJ nz ?_; intro v' w8 hn hb; have HN := Lib.hid hn; have HB8 := Lib.hid hb; clear hn hb)
                  go_roundw
                  case rel => exact ⟨j + 1, by omega, by go_num, by unfold Hid; rw [RX2.out]; exact HN.out, hB6.out.trans HB8.out⟩
                  case measure => simp [intOf]; omega
                · have q1 : (z == 1) = false := by simp; exact cz
                  have RX2 : Hid (fls (j + 1) (F k) = fls j (F k)) := by unfold Hid; rw [RX, decide_eq_false cz]; simp
                  clear RX cz
                  go_wp2
                  go_roundw
                  case rel => exact ⟨j + 1, by omega, by go_num, by unfold Hid; rw [RX2.out]; exact hI.out, hB6⟩
                  case measure => simp [intOf]; omega
              · have k3 : decide (j < x) = false := by simpa using cj
                have k3' : decide ((j : Int) < (x : Int)) = false := decide_eq_false (by omega)
                obtain rfl : j = x := by omega
                have NR2 := Lib.hid NR
                have NB2 := Lib.hid NB
                obtain ⟨ra, rc, hra⟩ := hI.out.len_eq
                obtain ⟨l, hl⟩ : ∃ l, (fls j (F k)).length = l := ⟨_, rfl⟩
                rw [hl] at hra
                subst hra
                have lj := RL.out k j
                rw [hl] at lj
                obtain ⟨va, vc', rfl⟩ : ∃ a c, u6 = .slice a k c := by
                  obtain ⟨a, c, h, -⟩ := NR.at.shape; rw [gk] at h; exact ⟨a, c, h⟩
                have gl : (setsL k j F).length < 1000000000 := by omega
                have bB : B + 1 ≤ b := bz
                have RX := Lib.hid (RW.out wr NB)
                have BX := Lib.hid (BW.out wr NB)
                clear NR NB
                by_cases zl : l = 0
                · have q1 : ((l : Int) == 0) = true := by simp; omega
                  have q2 : (l == 0) = true := by simp; omega
                  have VV := Lib.hid (VX.out (List.length_eq_zero_iff.1 (by omega)))
                  have V : Hid (DesignOfMatrix_N xss = 0 ∧ DesignOfMatrix_L xss = [] ∧ DesignOfMatrix_C xss = 6) := ⟨V0.out.1.trans VV.out.1, V0.out.2.1.trans VV.out.2.1, V0.out.2.2.trans VV.out.2.2⟩
                  subst zl
                  clear hl lj
                  have f0 := frozen_of_row wr (B) 0 _ _ RX.out
                  have f1 := frozen_of_row wr (B) 1 _ _ RX.out
                  have d0 : wr.cell? ⟨B, 0, none⟩ = some (.int .i64 0) := by rw [cell_of_row wr (B) 0 _ _ _ RX.out]; rfl
                  have d1 : wr.cell? ⟨B, 1, none⟩ = some (.slice none 0 0) := by rw [cell_of_row wr (B) 1 _ _ _ RX.out]; rfl
                  go_wp2
                  have R9 := set2_row wr (B) _ _ (.int .i64 0) (.slice none 0 0) _ RX.out
                  have B9 := (BX.out.setCell (p := ⟨B, 0, none⟩) (by simp only; omega) (.int .i64 0)).setCell (p := ⟨B, 1, none⟩) (by simp only; omega) (.slice none 0 0)
                  have hld := run_loadVar_row (P := Tryd.prog) _ _ 30 30 #[.int .i64 0, .slice none 0 0] (0, 0) _ R9 Tryd.underlying30 rfl Tryd.infoDes
                  refine bodyPost_ret (v := .tuple #[.agg #[.int .i64 0, .slice none 0 0], .int .i64 6]) ?_ rfl ⟨_, by rw [V.out.1, V.out.2.2], ?_, by rw [HB.out]; exact B9⟩
                  · rw [results_cell_tmp rfl]
                    simp [asAddr, Result.andThen, hld]
                  · rw [V.out.2.1]; exact RowsL.nil _ _ _ (Nat.le_refl _)
                · have q1 : ((l : Int) == 0) = false := by simp; omega
                  have q2 : (l == 0) = false := by simp; omega
                  have NE2 : Hid (∀ q, q < k + 1 → fls j (F q) ≠ []) := fun q hq => by
                    by_cases e : q = k
                    · rw [e]; intro h; rw [h] at hl; simp at hl; omega
                    · exact hNE.out q (by omega)
                  clear hl lj
                  go_wp2_with (at_builtin; refine wpList_pushR wr (by rfl) _ _ (by rfl) (B + 1) b _ _ _ _ (by rfl) NR2.out hI.out _ (by rfl) gl bB ?_; intro v' w8 hn hb; have HN := Lib.hid hn; have HB8 := Lib.hid hb; clear hn hb)
                  go_roundw
                  case rel => exact ⟨k + 1, by omega, by go_num, by unfold Hid; rw [SX.out]; exact HN.out, NB2.out.trans HB8.out, NE2⟩
                  case measure => simp [intOf]; omega
          · have k1 : decide (k < M) = false := by simpa using ck
            have k1' : decide ((k : Int) < (M : Int)) = false := decide_eq_false (by omega)
            obtain rfl : k = M := by omega
            have VM2 := Lib.hid (VM.out hNE.out)
            obtain ⟨va, vc', rfl, -⟩ := hR.out.at.shape
            have HM2 := Lib.hid (HM.out wr _ hR.out.at)
            rw [VM2.out.1, VM2.out.2.1, VM2.out.2.2] at HM2
            have sz : B + 1 ≤ wr.heap.size := by have := hBl.out.size; have := ZZ.out; omega
            have sW : W.heap.size ≤ wr.heap.size := by have := HB.out; omega
            go_wp2_with fail
            refine HM2.out.mono ?_
            rintro e w9 ⟨z, rfl, hL, b9⟩
            have RX : Hid (w9.heap[B]? = some (.cells #[.int .i64 0, .slice none 0 0] 30 (0, 0))) := (b9.block B (by omega)).trans (RW.out wr hBl.out)
            have BX : Hid (Below B W w9) := (BW.out wr hBl.out).trans (b9.mono (by omega))
            obtain ⟨ay, ly, cy, rfl⟩ : ∃ a l c, z = .slice a l c := by obtain ⟨a, c, e, -⟩ := hL.at.shape; exact ⟨a, _, c, e⟩
            have LX := Lib.hid hL
            have V := V0
            clear hL b9 e20
            have f0 := frozen_of_row w9 (B) 0 _ _ RX.out
            have f1 := frozen_of_row w9 (B) 1 _ _ RX.out
            have d0 : w9.cell? ⟨B, 0, none⟩ = some (.int .i64 0) := by rw [cell_of_row w9 (B) 0 _ _ _ RX.out]; rfl
            have d1 : w9.cell? ⟨B, 1, none⟩ = some (.slice none 0 0) := by rw [cell_of_row w9 (B) 1 _ _ _ RX.out]; rfl
            go_wp2
            have R9 := set2_row w9 (B) _ _ (.int .i64 vn) (.slice ay ly cy) _ RX.out
            have B9 := (BX.out.setCell (p := ⟨B, 0, none⟩) (by simp only; omega) (.int .i64 vn)).setCell (p := ⟨B, 1, none⟩) (by simp only; omega) (.slice ay ly cy)
            have L9 := RowsL.off2 LX.out (show B < wr.heap.size by omega) (.int .i64 vn) (.slice ay ly cy)
            have hld := run_loadVar_row (P := Tryd.prog) _ _ 30 30 #[.int .i64 vn, .slice ay ly cy] (0, 0) _ R9 Tryd.underlying30 rfl Tryd.infoDes
            refine bodyPost_ret (v := .tuple #[.agg #[.int .i64 vn, .slice ay ly cy], .int .i64 vc]) ?_ rfl ⟨_, by rw [V.out.1, V.out.2.2], ?_, by rw [HB.out]; exact B9⟩
            · rw [results_cell_tmp rfl]
              simp [asAddr, Result.andThen, hld]
            · rw [V.out.2.1]; exact L9.mono (by omega) (by simp [World.setCell]) (Nat.le_refl _)
  · have hr2 : ¬ (1 ≤ (N : Int) ∧ (N : Int) ≤ 32) := by omega
    have V := Lib.hid (NOT.out fun k => absurd ⟨k.1, k.2.1⟩ hr)
    rw [decide_eq_false hr2] at HIn
    have RX := Lib.hid R1
    have BX := Lib.hid b1
    clear b1 R1 hv K hr hr2
    go_enter Tryd.func41, Tryd.ntmps41
    go_wp2_with fail
    try rw [hw1]
    refine HIn.out.mono ?_
    rintro e w2 ⟨rfl, rfl⟩
    have f0 := frozen_of_row w1 (B) 0 _ _ RX.out
    have f1 := frozen_of_row w1 (B) 1 _ _ RX.out
    have d0 : w1.cell? ⟨B, 0, none⟩ = some (.int .i64 0) := by rw [cell_of_row w1 (B) 0 _ _ _ RX.out]; rfl
    have d1 : w1.cell? ⟨B, 1, none⟩ = some (.slice none 0 0) := by rw [cell_of_row w1 (B) 1 _ _ _ RX.out]; rfl
    go_wp2
    have R9 := set2_row w1 (B) _ _ (.int .i64 0) (.slice none 0 0) _ RX.out
    have B9 := (BX.out.setCell (p := ⟨B, 0, none⟩) (by simp only; omega) (.int .i64 0)).setCell (p := ⟨B, 1, none⟩) (by simp only; omega) (.slice none 0 0)
    have hld := run_loadVar_row (P := Tryd.prog) _ _ 30 30 #[.int .i64 0, .slice none 0 0] (0, 0) _ R9 Tryd.underlying30 rfl Tryd.infoDes
    refine bodyPost_ret (v := .tuple #[.agg #[.int .i64 0, .slice none 0 0], .int .i64 1]) ?_ rfl ⟨_, by rw [V.out.1, V.out.2.2], ?_, by rw [HB.out]; exact B9⟩
    · rw [results_cell_tmp rfl]
      simp [asAddr, Result.andThen, hld]
    · rw [V.out.2.1]; exact RowsL.nil _ _ _ (Nat.le_refl _)
end Go.Proofs.YtpckbhelnoeifaaDoor
