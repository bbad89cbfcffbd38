/- The design with some blocks, by the model (l10Make); SortDesign. -/
import Derived.Test.YtanfodbpgpfjmaaDoorDsm
namespace Go.Proofs.YtanfodbpgpfjmaaDoor
open Go.RowKit Go.Shelf
set_option linter.unusedVariables false
set_option linter.unusedSimpArgs false

set_option maxRecDepth 100000 in
set_option maxHeartbeats 4000000 in
theorem sMake (n : Int) (h1 : 1 ≤ n) (h2 : n ≤ 32) (xss : List (List Int)) (hx : xss.length ≤ 1048576) (hl : ∀ i, i < xss.length → (xss.getD i []).length ≤ 1048576) (w : World) (v : Value) (hv : RowsAt w v xss) :
    Calls Tryd.prog 70 #[.int .i64 n, v] w fun e w' => ∃ z, e = .returned (.tuple #[.agg #[.int .i64 (mkN n xss), z], .int .i64 (mkC n xss)]) ∧ RowsL w' w.heap.size w'.heap.size z (mkL n xss) ∧ Below w.heap.size w w' := by
  obtain ⟨B, hB⟩ : ∃ B, w.heap.size = B := ⟨_, rfl⟩
  obtain ⟨w0, hw0⟩ : ∃ w0, w.alloc (.cells #[.int .i64 0, .slice none 0 0] 24) = w0 := ⟨_, rfl⟩
  have b0 : Below B w w0 := by rw [← hw0]; exact (Below.refl _ _).alloc (Nat.le_of_eq hB.symm) _
  have z0 : w0.heap.size = B + 1 := by rw [← hw0, World.size_alloc, hB]
  have R0 : w0.heap[B]? = some (.cells #[.int .i64 0, .slice none 0 0] 24 (0, 0)) := by rw [← hw0, ← hB]; exact heap_alloc_new _ _
  have hv0 := hv.below b0 (Nat.le_of_eq hB)
  obtain ⟨a, cap, rfl, K⟩ := hv0.rowsIn
  obtain ⟨m, hm⟩ : ∃ m, xss.length = m := ⟨_, rfl⟩
  have NO : Hid (∀ i, i < m → blkB n (xss.getD i []) = false → mkN n xss = 0 ∧ mkL n xss = [] ∧ mkC n xss = 1) := fun i hi h => mk_no (blksB_false fun d => not_blkB h (d.2.2 i (by omega)))
  have YES : Hid ((∀ i, i < m → blkB n (xss.getD i []) = true) → (128 < m → mkN n xss = 0 ∧ mkL n xss = [] ∧ mkC n xss = 5) ∧ (¬ 128 < m → mkN n xss = n ∧ mkL n xss = sortL xss ∧ mkC n xss = 0)) := fun h => by
    have e : blksB n xss = true := blksB_true ⟨h1, h2, fun i hi => of_blkB (h i (by omega))⟩
    unfold mkN mkL mkC
    rw [e, hm]
    exact ⟨fun k => by simp [k], fun k => by simp [k]⟩
  obtain ⟨zn, hzn⟩ : ∃ z, mkN n xss = z := ⟨_, rfl⟩
  obtain ⟨zl, hzl⟩ : ∃ z, mkL n xss = z := ⟨_, rfl⟩
  obtain ⟨zc, hzc⟩ : ∃ z, mkC n xss = z := ⟨_, rfl⟩
  rw [hzn, hzl, hzc] at NO YES
  rw [hzn, hzl, hzc]
  have HSO := Lib.hid (fun (h : m ≤ 1000) W u hu => sSort xss (by omega) hl W u hu)
  have HB := Lib.hid hB
  have HR := Lib.hid R0
  have B0 := Lib.hid b0
  rw [hm] at K hx hv0 ⊢
  have HK := Lib.hid K
  have HV0 := Lib.hid hv0
  have HBK := Lib.hid (fun W u xs (h : IntsAt W u xs) => sBlk n h1 h2 xs W u h)
  clear K hv hv0 hl hm b0 R0 hzn hzl hzc
  rw [z0] at HK
  go_enter Tryd.func70, Tryd.ntmps70
  go_wp2
  try rw [hw0]
  clear hw0
  go_loopw [6] (fun i wr => ∃ j : Nat, j ≤ m ∧ i = .int .i64 j ∧ Hid (∀ i, i < j → blkB n (xss.getD i []) = true) ∧ ∃ d, wr = w0.drewN d) (fun i _ => m - (intOf i).toNat)
  case atStart => exact ⟨0, by omega, rfl, fun i h => by omega, 0, rfl⟩
  case round =>
    obtain ⟨j, hj, rfl, hP, d, rfl⟩ := hrel
    have R1 : (w0.drewN d).heap[B]? = some (.cells #[.int .i64 0, .slice none 0 0] 24 (0, 0)) := HR.out
    by_cases c : j < m
    · have k1 : decide (j < m) = true := by simpa using c
      have k1' : decide ((j : Int) < (m : Int)) = true := decide_eq_true (by omega)
      have w3 := IntWalk.i64_in ((j : Int) + 1) (by omega)
      have j0 : (0 : Int) ≤ (j : Int) := by omega
      have j1 : (j : Int) < (m : Int) := by omega
      obtain ⟨g1, o1, u, ha, hu, hi⟩ := HK.out w0 (Below.refl _ _) j c
      subst ha
      have NJ := Lib.hid (NO.out j c)
      obtain ⟨r, hr⟩ : ∃ r, xss.getD j [] = r := ⟨_, rfl⟩
      rw [hr] at hi NJ
      obtain ⟨ua, uc, rfl, -, -⟩ := hi.shape
      obtain ⟨l, hl⟩ : ∃ l, r.length = l := ⟨_, rfl⟩
      rw [hl] at hi hu
      have HBJ := Lib.hid (HBK.out (w0.drewN d) (.slice ua l uc) r (hi.ofHeap rfl))
      have HRR := Lib.hid hr
      clear hi hr hl
      cases hq : blkB n r with
      | false =>
        have V := Lib.hid (NJ.out hq)
        rw [hq] at HBJ
        clear hq
        go_wp2_with fail
        refine HBJ.out.mono ?_
        rintro e w2 ⟨rfl, d2, rfl⟩
        have R2 : ((w0.drewN d).drewN d2).heap[B]? = some (.cells #[.int .i64 0, .slice none 0 0] 24 (0, 0)) := HR.out
        obtain ⟨w4, hw4⟩ : ∃ W, (w0.drewN d).drewN d2 = W := ⟨_, rfl⟩
        have B4 : Hid (Below B w w4) := by rw [← hw4]; exact B0.out.trans ⟨rfl, rfl, rfl, Nat.le_refl _, fun _ _ => rfl⟩
        rw [hw4] at R2 ⊢
        have f0 := frozen_of_row w4 B 0 _ _ R2
        have f1 := frozen_of_row w4 B 1 _ _ R2
        have d0 : w4.cell? ⟨B, 0, none⟩ = some (.int .i64 0) := by rw [cell_of_row w4 B 0 _ _ _ R2]; rfl
        have d1 : w4.cell? ⟨B, 1, none⟩ = some (.slice none 0 0) := by rw [cell_of_row w4 B 1 _ _ _ R2]; rfl
        have R2 := Lib.hid R2
        clear R1 hw4
        go_wp2
        have R9 := set2_row w4 B _ _ (.int .i64 0) (.slice none 0 0) _ R2.out
        have B9 := (B4.out.setCell (p := ⟨B, 0, none⟩) (Nat.le_refl _) (.int .i64 0)).setCell (p := ⟨B, 1, none⟩) (Nat.le_refl _) (.slice none 0 0)
        have hld := run_loadVar_row (P := Tryd.prog) _ _ 24 24 #[.int .i64 0, .slice none 0 0] (0, 0) _ R9 Tryd.underlying24 rfl Tryd.infoDes
        refine bodyPost_ret (v := .tuple #[.agg #[.int .i64 0, .slice none 0 0], .int .i64 1]) ?_ rfl ⟨_, by rw [V.out.1, V.out.2.2], ?_, by rw [HB.out]; exact B9⟩
        · rw [results_cell_tmp rfl]
          simp [asAddr, Result.andThen, hld]
        · rw [V.out.2.1]; exact RowsL.nil _ _ _ (Nat.le_refl _)
      | true =>
        have P2 : Hid (∀ i, i < j + 1 → blkB n (xss.getD i []) = true) := fun i hi => by
          by_cases e : i = j
          · rw [e, HRR.out]; exact hq
          · exact hP.out i (by omega)
        rw [hq] at HBJ
        clear hq
        go_wp2_with fail
        refine HBJ.out.mono ?_
        rintro e w2 ⟨rfl, d2, rfl⟩
        go_wp2
        go_roundw
        case rel => exact ⟨j + 1, by omega, by go_num, P2, _, by first | rfl | exact World.drewN_drewN _ _ _⟩
        case measure => simp [intOf]; omega
    · have k1 : decide (j < m) = false := by simpa using c
      have k1' : decide ((j : Int) < (m : Int)) = false := decide_eq_false (by omega)
      obtain rfl : j = m := by omega
      obtain ⟨YF, YO⟩ := YES.out hP.out
      have YF := Lib.hid YF
      have YO := Lib.hid YO
      obtain ⟨w4, hw4⟩ : ∃ W, w0.drewN d = W := ⟨_, rfl⟩
      have b4 : Below (B + 1) w0 w4 := by rw [← hw4]; exact ⟨rfl, rfl, rfl, Nat.le_refl _, fun _ _ => rfl⟩
      have B4 : Hid (Below B w w4) := B0.out.trans (b4.mono (by omega))
      have hs4 : w4.heap.size = B + 1 := by rw [← hw4]; exact z0
      rw [hw4] at R1 ⊢
      clear hw4
      by_cases k : 128 < j
      · have t1 : decide ((j : Int) > 128) = true := decide_eq_true (by omega)
        have t2 : decide ((128 : Int) < (j : Int)) = true := decide_eq_true (by omega)
        have t3 : decide (128 < j) = true := decide_eq_true k
        have V := Lib.hid (YF.out k)
        have f0 := frozen_of_row w4 B 0 _ _ R1
        have f1 := frozen_of_row w4 B 1 _ _ R1
        have d0 : w4.cell? ⟨B, 0, none⟩ = some (.int .i64 0) := by rw [cell_of_row w4 B 0 _ _ _ R1]; rfl
        have d1 : w4.cell? ⟨B, 1, none⟩ = some (.slice none 0 0) := by rw [cell_of_row w4 B 1 _ _ _ R1]; rfl
        have R2 := Lib.hid R1
        clear R1
        go_wp2
        have R9 := set2_row w4 B _ _ (.int .i64 0) (.slice none 0 0) _ R2.out
        have B9 := (B4.out.setCell (p := ⟨B, 0, none⟩) (Nat.le_refl _) (.int .i64 0)).setCell (p := ⟨B, 1, none⟩) (Nat.le_refl _) (.slice none 0 0)
        have hld := run_loadVar_row (P := Tryd.prog) _ _ 24 24 #[.int .i64 0, .slice none 0 0] (0, 0) _ R9 Tryd.underlying24 rfl Tryd.infoDes
        refine bodyPost_ret (v := .tuple #[.agg #[.int .i64 0, .slice none 0 0], .int .i64 5]) ?_ rfl ⟨_, by rw [V.out.1, V.out.2.2], ?_, by rw [HB.out]; exact B9⟩
        · rw [results_cell_tmp rfl]
          simp [asAddr, Result.andThen, hld]
        · rw [V.out.2.1]; exact RowsL.nil _ _ _ (Nat.le_refl _)
      · have t1 : decide ((j : Int) > 128) = false := decide_eq_false (by omega)
        have t2 : decide ((128 : Int) < (j : Int)) = false := decide_eq_false (by omega)
        have t3 : decide (128 < j) = false := decide_eq_false k
        have V := Lib.hid (YO.out k)
        have HS := Lib.hid (HSO.out (by omega) w4 _ (HV0.out.below b4 (Nat.le_of_eq z0)))
        have R1 := Lib.hid R1
        go_wp2_with fail
        refine HS.out.mono ?_
        rintro e w5 ⟨z, rfl, hL, b5⟩
        have R5 : w5.heap[B]? = some (.cells #[.int .i64 0, .slice none 0 0] 24 (0, 0)) := (b5.block B (by omega)).trans R1.out
        have f0 := frozen_of_row w5 B 0 _ _ R5
        have f1 := frozen_of_row w5 B 1 _ _ R5
        have d0 : w5.cell? ⟨B, 0, none⟩ = some (.int .i64 0) := by rw [cell_of_row w5 B 0 _ _ _ R5]; rfl
        have d1 : w5.cell? ⟨B, 1, none⟩ = some (.slice none 0 0) := by rw [cell_of_row w5 B 1 _ _ _ R5]; rfl
        have R5 := Lib.hid R5
        have B5 : Hid (Below B w w5) := B4.out.trans (b5.mono (by omega))
        obtain ⟨az, lz, cz, rfl⟩ : ∃ a l c, z = .slice a l c := by obtain ⟨a, c, e, -⟩ := hL.at.shape; exact ⟨a, _, c, e⟩
        have L5 := Lib.hid hL
        clear hL b5
        go_wp2
        have R9 := set2_row w5 B _ _ (.int .i64 n) (.slice az lz cz) _ R5.out
        have B9 := (B5.out.setCell (p := ⟨B, 0, none⟩) (Nat.le_refl _) (.int .i64 n)).setCell (p := ⟨B, 1, none⟩) (Nat.le_refl _) (.slice az lz cz)
        have L9 := RowsL.off2 L5.out (show B < w4.heap.size by omega) (.int .i64 n) (.slice az lz cz)
        have hld := run_loadVar_row (P := Tryd.prog) _ _ 24 24 #[.int .i64 n, .slice az lz cz] (0, 0) _ R9 Tryd.underlying24 rfl Tryd.infoDes
        refine bodyPost_ret (v := .tuple #[.agg #[.int .i64 n, .slice az lz cz], .int .i64 0]) ?_ rfl ⟨_, by rw [V.out.1, V.out.2.2], ?_, by rw [HB.out]; exact B9⟩
        · rw [results_cell_tmp rfl]
          simp [asAddr, Result.andThen, hld]
        · rw [V.out.2.1]; exact L9.mono (by omega) (by simp [World.setCell]) (Nat.le_refl _)

end Go.Proofs.YtanfodbpgpfjmaaDoor
