/- The design with some blocks, by the model (l10Make); SortDesign. -/
import Derived.Test.YtanfodbpgpfjmaaDoorDsm
import Derived.Test.YtanfodbpgpfjmaaDoorDst
namespace Go.Proofs.YtanfodbpgpfjmaaDoor
open Go.RowKit Go.Shelf
set_option linter.unusedVariables false
set_option linter.unusedSimpArgs false

set_option maxRecDepth 100000 in
set_option maxHeartbeats 4000000 in
theorem sMake (n : Int) (h1 : 1 ≤ n) (h2 : n ≤ 32) (xss : List (List Int)) (hx : xss.length ≤ 1048576) (hl : ∀ i, i < xss.length → (xss.getD i []).length ≤ 1048576) (w : World) (v : Value) (hv : RowsAt w v xss) :
    Calls Tryd.prog 70 #[.int .i64 n, v] w fun e w' => ∃ z, e = .returned (.tuple #[.agg #[.int .i64 (mkN n xss), z], .int .i64 (mkC n xss)]) ∧ RowsL w' w.heap.size w'.heap.size z (mkL n xss) ∧ Below w.heap.size w w' := by
  obtain ⟨B, hB⟩ : ∃ B, w.heap.size = B := ⟨_, rfl⟩
  obtain ⟨w0, hw0⟩ : ∃ w0, w.alloc (.cells #[.int .i64 0, .slice none 0 0] 24) = w0 := ⟨_, rfl⟩
  have b0 : Below B w w0 := by rw [← hw0]; exact (Below.refl _ _).alloc (Nat.le_of_eq hB.symm) _
  have z0 : w0.heap.size = B + 1 := by rw [← hw0, World.size_alloc, hB]
  have R0 : w0.heap[B]? = some (.cells #[.int .i64 0, .slice none 0 0] 24 (0, 0)) := by rw [← hw0, ← hB]; exact heap_alloc_new _ _
  have hv0 := hv.below b0 (Nat.le_of_eq hB)
  obtain ⟨a, cap, rfl, K⟩ := hv0.rowsIn
  obtain ⟨m, hm⟩ : ∃ m, xss.length = m := ⟨_, rfl⟩
  have NO : Hid (∀ i, i < m → blkB n (xss.getD i []) = false → mkN n xss = 0 ∧ mkL n xss = [] ∧ mkC n xss = 1) := fun i hi h => mk_no (blksB_false fun d => not_blkB h (d.2.2 i (by omega)))
  have YES : Hid ((∀ i, i < m → blkB n (xss.getD i []) = true) → (128 < m → mkN n xss = 0 ∧ mkL n xss = [] ∧ mkC n xss = 5) ∧ (¬ 128 < m → mkN n xss = n ∧ mkL n xss = sortL xss ∧ mkC n xss = 0)) := fun h => by
    have e : blksB n xss = true := blksB_true ⟨h1, h2, fun i hi => of_blkB (h i (by omega))⟩
    unfold mkN mkL mkC
    rw [e, hm]
    exact ⟨fun k => by simp [k], fun k => by simp [k]⟩
  obtain ⟨zn, hzn⟩ : ∃ z, mkN n xss = z := ⟨_, rfl⟩
  obtain ⟨zl, hzl⟩ : ∃ z, mkL n xss = z := ⟨_, rfl⟩
  obtain ⟨zc, hzc⟩ : ∃ z, mkC n xss = z := ⟨_, rfl⟩
  rw [hzn, hzl, hzc] at NO YES
  rw [hzn, hzl, hzc]
  have HSO := Lib.hid (fun (h : m ≤ 1000) W u hu => sSort xss (by omega) hl W u hu)
  have HB := Lib.hid hB
  have HR := Lib.hid R0
  have B0 := Lib.hid b0
  rw [hm] at K hx hv0 ⊢
  have HK := Lib.hid K
  have HV0 := Lib.hid hv0
  have HBK := Lib.hid (fun W u xs (h : IntsAt W u xs) => sBlk n h1 h2 xs W u h)
  clear K hv hv0 hl hm b0 R0 hzn hzl hzc
  rw [z0] at HK
  go_enter Tryd.func70, Tryd.ntmps70
  go_wp2
  try rw [hw0]
  clear hw0
  go_loopw [6] (fun i wr => ∃ j : Nat, j ≤ m ∧ i = .int .i64 j ∧ Hid (∀ i, i < j → blkB n (xss.getD i []) = true) ∧ ∃ d, wr = w0.drewN d) (fun i _ => m - (intOf i).toNat)
  case atStart => exact ⟨0, by omega, rfl, fun i h => by omega, 0, rfl⟩
  case round =>
    obtain ⟨j, hj, rfl, hP, d, rfl⟩ := hrel
    have R1 : (w0.drewN d).heap[B]? = some (.cells #[.int .i64 0, .slice none 0 0] 24 (0, 0)) := HR.out
    by_cases c : j < m
    · have k1 : decide (j < m) = true := by simpa using c
      have k1' : decide ((j : Int) < (m : Int)) = true := decide_eq_true (by omega)
      have w3 := IntWalk.i64_in ((j : Int) + 1) (by omega)
      have j0 : (0 : Int) ≤ (j : Int) := by omega
      have j1 : (j : Int) < (m : Int) := by omega
      obtain ⟨g1, o1, u, ha, hu, hi⟩ := HK.out w0 (Below.refl _ _) j c
      subst ha
      have NJ := Lib.hid (NO.out j c)
      obtain ⟨r, hr⟩ : ∃ r, xss.getD j [] = r := ⟨_, rfl⟩
      rw [hr] at hi NJ
      obtain ⟨ua, uc, rfl, -, -⟩ := hi.shape
      obtain ⟨l, hl⟩ : ∃ l, r.length = l := ⟨_, rfl⟩
      rw [hl] at hi hu
      have HBJ := Lib.hid (HBK.out (w0.drewN d) (.slice ua l uc) r (hi.ofHeap rfl))
      have HRR := Lib.hid hr
      clear hi hr hl
      cases hq : blkB n r with
      | false =>
        have V := Lib.hid (NJ.out hq)
        rw [hq] at HBJ
        clear hq
        go_wp2_with fail
        refine HBJ.out.mono ?_
        rintro e w2 ⟨rfl, d2, rfl⟩
        have R2 : ((w0.drewN d).drewN d2).heap[B]? = some (.cells #[.int .i64 0, .slice none 0 0] 24 (0, 0)) := HR.out
        obtain ⟨w4, hw4⟩ : ∃ W, (w0.drewN d).drewN d2 = W := ⟨_, rfl⟩
        have B4 : Hid (Below B w w4) := by rw [← hw4]; exact B0.out.trans ⟨rfl, rfl, rfl, Nat.le_refl _, fun _ _ => rfl⟩
        rw [hw4] at R2 ⊢
        have f0 := frozen_of_row w4 B 0 _ _ R2
        have f1 := frozen_of_row w4 B 1 _ _ R2
        have d0 : w4.cell? ⟨B, 0, none⟩ = some (.int .i64 0) := by rw [cell_of_row w4 B 0 _ _ _ R2]; rfl
        have d1 : w4.cell? ⟨B, 1, none⟩ = some (.slice none 0 0) := by rw [cell_of_row w4 B 1 _ _ _ R2]; rfl
        have R2 := Lib.hid R2
        clear R1 hw4
        go_wp2
        have R9 := set2_row w4 B _ _ (.int .i64 0) (.slice none 0 0) _ R2.out
        have B9 := (B4.out.setCell (p := ⟨B, 0, none⟩) (Nat.le_refl _) (.int .i64 0)).setCell (p := ⟨B, 1, none⟩) (Nat.le_refl _) (.slice none 0 0)
        have hld := run_loadVar_row (P := Tryd.prog) _ _ 24 24 #[.int .i64 0, .slice none 0 0] (0, 0) _ R9 Tryd.underlying24 rfl Tryd.infoDes
        refine bodyPost_ret (v := .tuple #[.agg #[.int .i64 0, .slice none 0 0], .int .i64 1]) ?_ rfl ⟨_, by rw [V.out.1, V.out.2.2], ?_, by rw [HB.out]; exact B9⟩
        · rw [results_cell_tmp rfl]
          simp [asAddr, Result.andThen, hld]
        · rw [V.out.2.1]; exact RowsL.nil _ _ _ (Nat.le_refl _)
      | true =>
        have P2 : Hid (∀ i, i < j + 1 → blkB n (xss.getD i []) = true) := fun i hi => by
          by_cases e : i = j
          · rw [e, HRR.out]; exact hq
          · exact hP.out i (by omega)
        rw [hq] at HBJ
        clear hq
        go_wp2_with fail
        refine HBJ.out.mono ?_
        rintro e w2 ⟨rfl, d2, rfl⟩
        go_wp2
        go_roundw
        case rel => exact ⟨j + 1, by omega, by go_num, P2, _, by first | rfl | exact World.drewN_drewN _ _ _⟩
        case measure => simp [intOf]; omega
    · have k1 : decide (j < m) = false := by simpa using c
      have k1' : decide ((j : Int) < (m : Int)) = false := decide_eq_false (by omega)
      obtain rfl : j = m := by omega
      obtain ⟨YF, YO⟩ := YES.out hP.out
      have YF := Lib.hid YF
      have YO := Lib.hid YO
      obtain ⟨w4, hw4⟩ : ∃ W, w0.drewN d = W := ⟨_, rfl⟩
      have b4 : Below (B + 1) w0 w4 := by rw [← hw4]; exact ⟨rfl, rfl, rfl, Nat.le_refl _, fun _ _ => rfl⟩
      have B4 : Hid (Below B w w4) := B0.out.trans (b4.mono (by omega))
      have hs4 : w4.heap.size = B + 1 := by rw [← hw4]; exact z0
      rw [hw4] at R1 ⊢
      clear hw4
      by_cases k : 128 < j
      · have t1 : decide ((j : Int) > 128) = true := decide_eq_true (by omega)
        have t2 : decide ((128 : Int) < (j : Int)) = true := decide_eq_true (by omega)
        have t3 : decide (128 < j) = true := decide_eq_true k
        have V := Lib.hid (YF.out k)
        have f0 := frozen_of_row w4 B 0 _ _ R1
        have f1 := frozen_of_row w4 B 1 _ _ R1
        have d0 : w4.cell? ⟨B, 0, none⟩ = some (.int .i64 0) := by rw [cell_of_row w4 B 0 _ _ _ R1]; rfl
        have d1 : w4.cell? ⟨B, 1, none⟩ = some (.slice none 0 0) := by rw [cell_of_row w4 B 1 _ _ _ R1]; rfl
        have R2 := Lib.hid R1
        clear R1
        go_wp2
        have R9 := set2_row w4 B _ _ (.int .i64 0) (.slice none 0 0) _ R2.out
        have B9 := (B4.out.setCell (p := ⟨B, 0, none⟩) (Nat.le_refl _) (.int .i64 0)).setCell (p := ⟨B, 1, none⟩) (Nat.le_refl _) (.slice none 0 0)
        have hld := run_loadVar_row (P := Tryd.prog) _ _ 24 24 #[.int .i64 0, .slice none 0 0] (0, 0) _ R9 Tryd.underlying24 rfl Tryd.infoDes
        refine bodyPost_ret (v := .tuple #[.agg #[.int .i64 0, .slice none 0 0], .int .i64 5]) ?_ rfl ⟨_, by rw [V.out.1, V.out.2.2], ?_, by rw [HB.out]; exact B9⟩
        · rw [results_cell_tmp rfl]
          simp [asAddr, Result.andThen, hld]
        · rw [V.out.2.1]; exact RowsL.nil _ _ _ (Nat.le_refl _)
      · have t1 : decide ((j : Int) > 128) = false := decide_eq_false (by omega)
        have t2 : decide ((128 : Int) < (j : Int)) = false := decide_eq_false (by omega)
        have t3 : decide (128 < j) = false := decide_eq_false k
        have V := Lib.hid (YO.out k)
        have HS := Lib.hid (HSO.out (by omega) w4 _ (HV0.out.below b4 (Nat.le_of_eq z0)))
        have R1 := Lib.hid R1
        go_wp2_with fail
        refine HS.out.mono ?_
        rintro e w5 ⟨z, rfl, hL, b5⟩
        have R5 : w5.heap[B]? = some (.cells #[.int .i64 0, .slice none 0 0] 24 (0, 0)) := (b5.block B (by omega)).trans R1.out
        have f0 := frozen_of_row w5 B 0 _ _ R5
        have f1 := frozen_of_row w5 B 1 _ _ R5
        have d0 : w5.cell? ⟨B, 0, none⟩ = some (.int .i64 0) := by rw [cell_of_row w5 B 0 _ _ _ R5]; rfl
        have d1 : w5.cell? ⟨B, 1, none⟩ = some (.slice none 0 0) := by rw [cell_of_row w5 B 1 _ _ _ R5]; rfl
        have R5 := Lib.hid R5
        have B5 : Hid (Below B w w5) := B4.out.trans (b5.mono (by omega))
        obtain ⟨az, lz, cz, rfl⟩ : ∃ a l c, z = .slice a l c := by obtain ⟨a, c, e, -⟩ := hL.at.shape; exact ⟨a, _, c, e⟩
        have L5 := Lib.hid hL
        clear hL b5
        go_wp2
        have R9 := set2_row w5 B _ _ (.int .i64 n) (.slice az lz cz) _ R5.out
        have B9 := (B5.out.setCell (p := ⟨B, 0, none⟩) (Nat.le_refl _) (.int .i64 n)).setCell (p := ⟨B, 1, none⟩) (Nat.le_refl _) (.slice az lz cz)
        have L9 := RowsL.off2 L5.out (show B < w4.heap.size by omega) (.int .i64 n) (.slice az lz cz)
        have hld := run_loadVar_row (P := Tryd.prog) _ _ 24 24 #[.int .i64 n, .slice az lz cz] (0, 0) _ R9 Tryd.underlying24 rfl Tryd.infoDes
        refine bodyPost_ret (v := .tuple #[.agg #[.int .i64 n, .slice az lz cz], .int .i64 0]) ?_ rfl ⟨_, by rw [V.out.1, V.out.2.2], ?_, by rw [HB.out]; exact B9⟩
        · rw [results_cell_tmp rfl]
          simp [asAddr, Result.andThen, hld]
        · rw [V.out.2.1]; exact L9.mono (by omega) (by simp [World.setCell]) (Nat.le_refl _)

section
open Go.RowKit Go.Shelf
set_option linter.unusedVariables false
set_option linter.unusedSimpArgs false

theorem mark_DesignR (w : World) (B L : Nat) (n : Int) (v : Value) (xss : List (List Int)) (k : Int) (h : RowsL w B L v xss) (k0 : 0 ≤ k) (k1 : k + tot xss ≤ 9000000000000000000) :
    Calls Tryd.prog 10 #[.agg #[.int .i64 n, v], .int .i64 k] w fun e w' => e = .returned (.int .i64 (k + tot xss)) ∧ RowsL w' B L v (marksR k xss) ∧ Marked B L (w.alloc (.cells #[.int .i64 n, v] 24)) w' := by
  have hb : Below w.heap.size w (w.alloc (.cells #[.int .i64 n, v] 24)) := (Below.refl _ _).alloc (Nat.le_refl _) _
  have HM := Lib.hid (mark_rows _ B L v xss k (h.below hb (Nat.le_refl _)) k0 k1)
  obtain ⟨a, cap, rfl, -⟩ := h.at.shape
  clear h hb
  go_enter Tryd.func10, Tryd.ntmps10
  go_wp2_with fail
  refine HM.out.mono ?_
  rintro e w1 ⟨rfl, hr, hm⟩
  have M := Lib.hid hm
  have R := Lib.hid hr
  clear hm hr
  go_wp2
  go_ret
  exact ⟨rfl, R.out, M.out⟩
theorem held_Design (w : World) (n : Int) (v : Value) (xss : List (List Int)) (k : Int) (h : RowsAt w v (marksR k xss)) (k0 : 0 ≤ k) (k1 : k + tot xss ≤ 9000000000000000000) :
    Calls Tryd.prog 11 #[.agg #[.int .i64 n, v], .int .i64 k] w fun e w' => e = .returned (.int .i64 (k + tot xss)) ∧ Below w.heap.size w w' := by
  have hb : Below w.heap.size w (w.alloc (.cells #[.int .i64 n, v] 24)) := (Below.refl _ _).alloc (Nat.le_refl _) _
  have HM := Lib.hid (held_rows _ v k xss (h.below hb (Nat.le_refl _)) k0 k1)
  have HB := Lib.hid hb
  obtain ⟨a, cap, rfl, -⟩ := h.shape
  obtain ⟨q, hq⟩ : ∃ q : Int, k + (tot xss : Int) = q := ⟨_, rfl⟩
  rw [hq] at HM ⊢
  have t : decide (q < 0) = false := decide_eq_false (by omega)
  clear h hb hq
  go_enter Tryd.func11, Tryd.ntmps11
  go_wp2_with fail
  refine HM.out.mono ?_
  rintro e w1 ⟨rfl, d, rfl⟩
  go_wp2
  go_ret
  exact ⟨rfl, below_drewN HB.out _⟩

/-- A design of the call's own in block X, behind its rows. -/
theorem Cpy.keep {W W' : World} {X b B L : Nat} {n : Int} {v : Value} {T : TypeId} {xs : List (List Int)} (h : Hid (Cpy X b n v T xs W)) (m : Marked B L W W') (d : X < B ∨ L ≤ b) : Hid (Cpy X b n v T xs W') := by
  have hb := h.out.2.2
  exact ⟨h.out.1.mark m (by omega), h.out.2.1.keep m (by omega), hb⟩
/-- Its rows are marked. -/
theorem Cpy.marked {W W' : World} {X b : Nat} {n : Int} {v : Value} {T : TypeId} {xs ys : List (List Int)} (h : Hid (Cpy X b n v T xs W)) (m : Marked b X W W') (r : RowsL W' b X v ys) : Hid (Cpy X b n v T ys W') :=
  ⟨h.out.1.mark m (.inr (Nat.le_refl _)), r, h.out.2.2⟩
theorem Cpy.at {W : World} {X b : Nat} {n : Int} {v : Value} {T : TypeId} {xs : List (List Int)} (h : Hid (Cpy X b n v T xs W)) : RowsAt W v xs := h.out.2.1.at
theorem Cpy.cells {W : World} {X b : Nat} {n : Int} {v : Value} {T : TypeId} {xs : List (List Int)} (h : Hid (Cpy X b n v T xs W)) : W.cell? ⟨X, 0, none⟩ = some (.int .i64 n) ∧ W.cell? ⟨X, 1, none⟩ = some v := h.out.1.cells
theorem tot_perm {xs ys : List (List Int)} (h : xs.Perm ys) : tot xs = tot ys := by
  induction h with
  | nil => rfl
  | cons x _ ih => rw [tot_cons, tot_cons, ih]
  | swap x y l => rw [tot_cons, tot_cons, tot_cons, tot_cons]; omega
  | trans _ _ i1 i2 => exact i1.trans i2
theorem tot_mkL (n : Int) (xss : List (List Int)) : tot (mkL n xss) ≤ tot xss ∧ (mkL n xss).length ≤ xss.length := by
  unfold mkL
  split
  · split
    · exact ⟨Nat.zero_le _, Nat.zero_le _⟩
    · exact ⟨Nat.le_of_eq (tot_perm (sortL_perm xss)), Nat.le_of_eq (sortL_len xss)⟩
  · exact ⟨Nat.zero_le _, Nat.zero_le _⟩

/-! Designs out of sets that may be empty: values. Mathematics alone. -/
section
open Go.RowKit
set_option linter.unusedVariables false
set_option linter.unusedSimpArgs false

def anyE (Ls : List (List Int)) : Bool := Ls.any (fun l => l.isEmpty)
/-- The design with some sets: number of points, blocks, code. -/
def dxN (n : Int) (Ls : List (List Int)) : Int := if anyE Ls then 0 else if 128 < Ls.length then 0 else n
def dxL (Ls : List (List Int)) : List (List Int) := if anyE Ls then [] else if 128 < Ls.length then [] else sortL Ls
def dxC (Ls : List (List Int)) : Int := if anyE Ls then 6 else if 128 < Ls.length then 5 else 0
theorem anyE_true {Ls : List (List Int)} {i : Nat} (hi : i < Ls.length) (h : Ls.getD i [] = []) : anyE Ls = true := by
  unfold anyE; rw [List.any_eq_true]
  refine ⟨Ls.getD i [], ?_, by rw [h]; rfl⟩
  rw [List.getD_eq_getElem?_getD, List.getElem?_eq_getElem hi]; exact List.getElem_mem _
theorem anyE_false {Ls : List (List Int)} (h : ∀ i, i < Ls.length → Ls.getD i [] ≠ []) : anyE Ls = false := by
  unfold anyE; rw [List.any_eq_false]
  intro l hl e
  obtain ⟨i, hi, el⟩ := mem_getD hl
  exact h i hi (by rw [el]; simpa using e)
theorem ptsN_nil (x : Nat) (hx : x < 4294967296) : ptsN x = [] ↔ x = 0 := by
  constructor
  · intro h
    apply bits_ext
    intro i
    cases b : x.testBit i with
    | false => rfl
    | true =>
      have : (i : Int) ∈ ptsN x := (fls_mem 32 _ _).2 ⟨i, bit_lt (by omega) b, b, rfl⟩
      rw [h] at this; cases this
  · rintro rfl
    rw [List.eq_nil_iff_forall_not_mem]
    intro z hz
    obtain ⟨k, -, h, -⟩ := (fls_mem 32 _ _).1 hz
    simp at h
theorem zero_any {m : Nat} {S : Nat → Nat} (hS : ∀ i, i < m → S i < 4294967296) : zeroB m S = anyE (ptsL m S) := by
  cases h : anyE (ptsL m S) with
  | false =>
    refine zero_false fun i hi e => ?_
    have := anyE_true (Ls := ptsL m S) (i := i) (by rw [ptsL_len]; exact hi) (by rw [ptsL_at m S i hi]; exact (ptsN_nil _ (hS i hi)).2 e)
    rw [h] at this; cases this
  | true =>
    unfold anyE at h
    rw [List.any_eq_true] at h
    obtain ⟨l, hl, e⟩ := h
    obtain ⟨i, hi, el⟩ := mem_getD hl
    rw [ptsL_len] at hi
    rw [ptsL_at m S i hi] at el
    exact zero_true hi ((ptsN_nil _ (hS i hi)).1 (by rw [el]; simpa using e))
theorem dx_des (n : Int) {m : Nat} {S : Nat → Nat} (hS : ∀ i, i < m → S i < 4294967296) : desN n m S = dxN n (ptsL m S) ∧ desL m S = dxL (ptsL m S) ∧ desC m S = dxC (ptsL m S) := by
  unfold desN desL desC dxN dxL dxC
  rw [zero_any hS, ptsL_len]
  exact ⟨rfl, rfl, rfl⟩
theorem dx_mk {n : Int} {Ls : List (List Int)} (h1 : 1 ≤ n) (h2 : n ≤ 32) (he : anyE Ls = false) (hr : ∀ i, i < Ls.length → Rises 0 (n - 1) (Ls.getD i [])) : mkN n Ls = dxN n Ls ∧ mkL n Ls = dxL Ls ∧ mkC n Ls = dxC Ls := by
  have hb : blksB n Ls = true := blksB_true ⟨h1, h2, fun i hi => ⟨by
    cases e : Ls.getD i [] with
    | nil => rw [anyE_true hi e] at he; cases he
    | cons => simp, hr i hi⟩⟩
  unfold mkN mkL mkC dxN dxL dxC
  rw [hb, he]
  exact ⟨rfl, rfl, rfl⟩
theorem dx_empty (n : Int) {Ls : List (List Int)} (he : anyE Ls = true) : dxN n Ls = 0 ∧ dxL Ls = [] ∧ dxC Ls = 6 := by
  unfold dxN dxL dxC; rw [he]; exact ⟨rfl, rfl, rfl⟩
theorem dxL_tot (Ls : List (List Int)) : tot (dxL Ls) ≤ tot Ls ∧ (dxL Ls).length ≤ Ls.length := by
  unfold dxL
  split
  · exact ⟨Nat.zero_le _, Nat.zero_le _⟩
  · split
    · exact ⟨Nat.zero_le _, Nat.zero_le _⟩
    · exact ⟨Nat.le_of_eq (tot_perm (sortL_perm Ls)), Nat.le_of_eq (sortL_len Ls)⟩
/-- Lists of numbers with a property. -/
def setsL (N m : Nat) (P : Nat → Nat → Bool) : List (List Int) := (List.range N).map (fun k => fls m (P k))
theorem setsL_len (N m : Nat) (P : Nat → Nat → Bool) : (setsL N m P).length = N := by simp [setsL]
theorem setsL_at (N m : Nat) (P : Nat → Nat → Bool) (k : Nat) (hk : k < N) : (setsL N m P).getD k [] = fls m (P k) := by
  unfold setsL; rw [List.getD_eq_getElem?_getD, List.getElem?_eq_getElem (by simpa using hk)]; simp
theorem setsL_succ (N m : Nat) (P : Nat → Nat → Bool) : setsL (N + 1) m P = setsL N m P ++ [fls m (P N)] := by simp [setsL, List.range_succ]
theorem setsL_tot (N m : Nat) (P : Nat → Nat → Bool) : tot (setsL N m P) ≤ N * m := by
  induction N with
  | zero => simp [setsL, tot]
  | succ N ih =>
    rw [setsL_succ, tot_append, tot_cons, tot_nil, Nat.succ_mul]
    have := fls_len m (P N)
    omega
theorem fls_rises (m : Nat) (P : Nat → Bool) : Rises 0 ((m : Int) - 1) (fls m P) := by
  intro i hi
  unfold okAt
  have hm : (fls m P).getD i 0 ∈ fls m P := by rw [List.getD_eq_getElem?_getD, List.getElem?_eq_getElem hi]; exact List.getElem_mem _
  obtain ⟨k, h1, -, e⟩ := (fls_mem m P _).1 hm
  refine ⟨by omega, by omega, fun h0 => ?_⟩
  have := List.pairwise_iff_getElem.1 (fls_sorted P m) (i - 1) i (by omega) hi (by omega)
  rw [List.getD_eq_getElem?_getD, List.getD_eq_getElem?_getD, List.getElem?_eq_getElem (by omega : i - 1 < (fls m P).length), List.getElem?_eq_getElem hi]
  exact this
/-- The sets' bits. -/
theorem pts_fls {x m : Nat} {P : Nat → Bool} (hm : m ≤ 32) (h : ∀ i, x.testBit i = (decide (i < m) && P i)) : ptsN x = fls m P := by
  refine sorted_ext _ _ (fls_sorted _ _) (fls_sorted _ _) fun z => ?_
  show z ∈ fls 32 _ ↔ _
  rw [fls_mem, fls_mem]
  constructor
  · rintro ⟨k, -, h2, rfl⟩
    rw [h k, Bool.and_eq_true] at h2
    exact ⟨k, of_decide_eq_true h2.1, h2.2, rfl⟩
  · rintro ⟨k, h1, h2, rfl⟩
    exact ⟨k, by omega, by rw [h k, decide_eq_true h1, h2]; rfl, rfl⟩
theorem ptsL_sets {N m : Nat} {S : Nat → Nat} {P : Nat → Nat → Bool} (hm : m ≤ 32) (h : ∀ k, k < N → ∀ i, (S k).testBit i = (decide (i < m) && P k i)) : ptsL N S = setsL N m P := by
  unfold ptsL setsL
  exact List.map_congr_left fun k hk => pts_fls hm (h k (List.mem_range.1 hk))
end
end
end Go.Proofs.YtanfodbpgpfjmaaDoor
