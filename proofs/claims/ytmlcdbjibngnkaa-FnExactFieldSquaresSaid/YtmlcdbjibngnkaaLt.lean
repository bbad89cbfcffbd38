/- LogTable, both sides. -/
import Derived.Test.YtmlcdbjibngnkaaEy
namespace Go.Proofs.Ytmlcdbjibngnkaa
open Go.RowKit
set_option linter.unusedVariables false
set_option linter.unusedSimpArgs false

/-- The table after n rounds. -/
def lgC (p k : Nat) (f : Co) (g : Nat) : Nat → Co
  | 0 => upd (fun _ => 0) 0 (-1)
  | n + 1 => upd (lgC p k f g n) (pw p k f g n) n
noncomputable def lgT (P K : Int) (xs : List Int) : List Int := if fok P K xs = true then vec (P.toNat ^ K.toNat) (lgC P.toNat K.toNat (cofs xs) (primF P.toNat K.toNat (cofs xs)) (P.toNat ^ K.toNat - 1)) else []
theorem lgT_len (P K : Int) (xs : List Int) : (lgT P K xs).length ≤ 64 := by
  unfold lgT
  split
  · rename_i h
    obtain ⟨p, k, rfl, rfl, hf⟩ := fok_int h
    rw [vec_length]
    exact hf.2.2.1
  · simp

set_option maxHeartbeats 1000000 in
theorem sLogTable (P K : Int) (xs : List Int) (v : Value) (w : World) (hv : IntsAt w v xs) :
    Calls Try.prog 50 #[.agg #[.int .i64 P, .int .i64 K, v]] w fun e w' => ∃ v', e = .returned v' ∧ Ints w' w.heap.size v' (lgT P K xs) ∧ Below w.heap.size w w' := by
  have B1 : Hid (Below w.heap.size w (w.alloc (.cells #[.int .i64 P, .int .i64 K, v] 25))) := (Below.refl _ _).alloc (Nat.le_refl _) _
  have HS := Lib.hid (sok P K xs v w.heap.size (w.alloc (.cells #[.int .i64 P, .int .i64 K, v] 25)) (Fd.new w P K v) (hv.below B1.out (Nat.le_refl _)))
  have F1 := Lib.hid (Fd.new w P K v)
  obtain ⟨a, n, cap, rfl⟩ := fld_slice hv
  by_cases hk : fok P K xs = true
  · obtain ⟨p, k, rfl, rfl, h⟩ := fok_int hk
    have hF := Lib.hid (Fp.of h)
    have hb := h.bd
    obtain ⟨gr, hr⟩ := has_root h
    have o2 := (primF_is (prim_ex (Fp.of h) hr)).2.1
    have hq := h.2.2.1
    have q1 := q_big (Fp.of h)
    have HM := Lib.hid (fun (x y : Nat) (W : World) (hs : Sp w w.heap.size p k (.slice a n cap) W) (hx : x < p ^ k) (hy : y < p ^ k) => smulN p k x y xs _ w.heap.size W hs.1 (hv.below hs.2 (Nat.le_refl _)) h hx hy)
    have HZ := Lib.hid (fun (W : World) (hs : Sp w w.heap.size p k (.slice a n cap) W) => ssize p k _ w.heap.size W hs.1 hb.2.1 hb.2.2)
    have HP := Lib.hid (fun (W : World) (hs : Sp w w.heap.size p k (.slice a n cap) W) => sprimitive p k xs _ w.heap.size W hs.1 (hv.below hs.2 (Nat.le_refl _)) h)
    have E : Hid (lgT p k xs = vec (p ^ k) (lgC p k (cofs xs) (primF p k (cofs xs)) (p ^ k - 1))) := by
      unfold Hid lgT
      rw [if_pos hk]
      simp only [Int.toNat_natCast]
    have PL : Hid (∀ j, pw p k (cofs xs) (primF p k (cofs xs)) j < p ^ k) := fun j => pw_lt (Fp.of h) _ _
    obtain ⟨r, hr'⟩ : ∃ r, primF p k (cofs xs) = r := ⟨_, rfl⟩
    rw [hr'] at o2 HP E PL
    obtain ⟨q, hq'⟩ : ∃ q, p ^ k = q := ⟨_, rfl⟩
    rw [hq'] at o2 hq q1 HM HZ E PL
    have hmk := fun W : World => run_make_row' (P := Try.prog) 23 2 (.int .i64 0) 8 Try.underlying23 Try.infoInt rfl .i64 .i64 q (by omega) (by omega) W
    have hrow0 : Hid (∀ W : World, Ints (W.alloc (.cells (madeCells #[.int .i64 0] q) 2)) W.heap.size (.slice (some ⟨W.heap.size, 0, none⟩) q q) (vec q (fun _ => 0))) := fun W => by
      have := World.ownsRow_lit (base := W.heap.size) (e := 2) (size := 1) W (madeCells #[.int .i64 0] q) q (Nat.le_refl _) (by unfold maxLen; omega) (by simp [size_madeCells])
      rw [toList_madeCells_one] at this
      unfold Ints
      rw [vec_length, ← rep_vec]
      simpa using this
    rw [hk] at HS
    have w2' := wrapk' (n := (q : Int) - 1) (by omega)
    clear hk h hr hv hr' hq'
    go_enter Try.func50, Try.ntmps50
    go_upto_region 4 with (first | (go_at_call 58; refine HS.out.mono ?_; rintro e w' ⟨rfl, b2⟩; have S2 : Hid (Sp w w.heap.size p k (.slice a n cap) w') := ⟨F1.out.next b2, B1.out.trans (b2.mono B1.out.size)⟩; clear b2) | (go_at_call 56; refine (HZ.out _ S2.out).mono ?_; rintro e w3 ⟨rfl, n3, rfl⟩; have S3 : Hid (Sp w w.heap.size p k (.slice a n cap) (w'.drewN n3)) := Sp.next S2 (belowN (Below.refl _ _) n3)))
    obtain ⟨w3, hw3⟩ : ∃ w3, w'.drewN n3 = w3 := ⟨_, rfl⟩
    rw [hw3] at S3 ⊢
    clear hw3 S2 HS F1 B1
    go_upto_region 5 with fail
    have Z3 := Lib.hid (hrow0.out w3)
    have S4 : Hid (Sp w w.heap.size p k (.slice a n cap) (w3.alloc (.cells (madeCells #[.int .i64 0] q) 2))) := Sp.next S3 ((Below.refl _ _).alloc (Nat.le_refl _) _)
    obtain ⟨gz, hgz⟩ : ∃ gz, w3.heap.size = gz := ⟨_, rfl⟩
    obtain ⟨w4, hw4⟩ : ∃ w4, w3.alloc (.cells (madeCells #[.int .i64 0] q) 2) = w4 := ⟨_, rfl⟩
    have s1 : w.heap.size < gz := by rw [← hgz]; exact S3.out.1.lt
    rw [hw4] at Z3 S4 ⊢
    rw [hgz] at Z3 ⊢
    clear hw4 hgz S3 hmk hrow0
    have fz := Z3.out.frozen 0
    have cz : w4.cell? ⟨gz, 0, none⟩ = some (.int .i64 0) := by
      have := Z3.out.cell 0 (by rw [vec_length]; omega)
      rwa [vec_getD _ _ _ (by omega)] at this
    have q0 : (0 : Int) < (q : Int) := by omega
    have N0 : Hid (Ints (w4.setCell ⟨gz, 0, none⟩ (.int .i64 (-1))) gz (.slice (some ⟨gz, 0, none⟩) q q) (vec q (lgC p k (cofs xs) r 0))) := by
      have := Z3.out.stored (vec_length _ _) 0 (-1)
      rw [vec_set] at this
      exact this
    have N3 : Hid (Sp w w.heap.size p k (.slice a n cap) (w4.setCell ⟨gz, 0, none⟩ (.int .i64 (-1)))) := ⟨S4.out.1.other (by omega) _ _, S4.out.2.setCell (by show w.heap.size ≤ gz; omega) _⟩
    go_upto_region 6 with fail
    obtain ⟨w5, hw5⟩ : ∃ w5, w4.setCell ⟨gz, 0, none⟩ (.int .i64 (-1)) = w5 := ⟨_, rfl⟩
    rw [hw5] at N0 N3 ⊢
    clear hw5 Z3 S4 fz cz
    go_upto_region 7 with (go_at_call 81; refine (HP.out _ N3.out).mono ?_; rintro e w6 ⟨rfl, b6⟩; have S6 := Sp.next N3 b6; have N6 := Lib.hid (N0.out.below b6 (Nat.le_refl _)); clear b6)
    clear N0 N3 HP HZ
    go_wp2
    go_loopw [6, 7] (fun x i wr => ∃ j y : Nat, j ≤ q - 1 ∧ x = .int .i64 y ∧ i = .int .i64 j ∧ Hid (y = pw p k (cofs xs) r j) ∧ Hid (Ints wr gz (.slice (some ⟨gz, 0, none⟩) q q) (vec q (lgC p k (cofs xs) r j))) ∧ Hid (Sp w w.heap.size p k (.slice a n cap) wr)) (fun _ i _ => q - (intOf i).toNat)
    case atStart => exact ⟨0, 1, by omega, rfl, rfl, rfl, N6, S6⟩
    case round =>
      obtain ⟨j, y, j1, rfl, rfl, hy, hI, hS⟩ := hrel
      have yl : y < q := by rw [hy.out]; exact PL.out j
      by_cases c : j < q - 1
      · have g1 : decide ((j : Int) < (q : Int) - 1) = true := by simp; omega
        have w1' := wrapk' (n := (j : Int) + 1) (by omega)
        have y0 : (0 : Int) ≤ (y : Int) := by omega
        have y1 : (y : Int) < (q : Int) := by omega
        have fz := hI.out.frozen y
        have cz := hI.out.cell y (by rw [vec_length]; omega)
        have N0 : Hid (Ints (wr.setCell ⟨gz, y, none⟩ (.int .i64 j)) gz (.slice (some ⟨gz, 0, none⟩) q q) (vec q (lgC p k (cofs xs) r (j + 1)))) := by
          have := hI.out.stored (vec_length _ _) y j
          rw [vec_set] at this
          rw [lgC, ← hy.out]
          exact this
        have N3 : Hid (Sp w w.heap.size p k (.slice a n cap) (wr.setCell ⟨gz, y, none⟩ (.int .i64 j))) := ⟨hS.out.1.other (by omega) _ _, hS.out.2.setCell (by show w.heap.size ≤ gz; omega) _⟩
        have HN : Hid (fm p k (cofs xs) y r = pw p k (cofs xs) r (j + 1)) := by rw [hy.out]; rfl
        go_upto_region 12 with fail
        obtain ⟨w5, hw5⟩ : ∃ w5, wr.setCell ⟨gz, y, none⟩ (.int .i64 j) = w5 := ⟨_, rfl⟩
        rw [hw5] at N0 N3 ⊢
        clear hw5 cz fz
        go_wp2_with (go_at_call 66; refine (HM.out y r _ N3.out yl o2).mono ?_; rintro e w7 ⟨rfl, b7⟩; have S7 := Sp.next N3 b7; have N7 := Lib.hid (N0.out.below b7 (Nat.le_refl _)); clear b7)
        go_roundw
        case rel => exact ⟨j + 1, _, by omega, rfl, by go_num, HN, N7, S7⟩
        case measure => simp [intOf]; omega
      · have g1 : decide ((j : Int) < (q : Int) - 1) = false := by simp; omega
        have ej : j = q - 1 := by omega
        have E2 : Hid (Ints wr w.heap.size (.slice (some ⟨gz, 0, none⟩) q q) (lgT p k xs)) := by
          rw [E.out, ← ej]; exact hI.out.mono (by omega)
        clear ej
        go_wp2
        go_ret
        exact ⟨_, rfl, E2.out, hS.out.2⟩
  · have E : Hid (lgT P K xs = []) := by unfold Hid lgT; rw [if_neg hk]
    rw [Bool.not_eq_true] at hk
    rw [hk] at HS
    clear hk hv
    go_enter Try.func50, Try.ntmps50
    go_wp2_with (go_at_call 58; refine HS.out.mono ?_; rintro e w' ⟨rfl, b2⟩; have B2 := Lib.hid b2; clear b2)
    go_ret
    exact ⟨_, rfl, by rw [E.out]; exact World.ownsRow_nil _ _ _ _, B1.out.trans (B2.out.mono B1.out.size)⟩

set_option maxHeartbeats 2000000 in
theorem iLogTable (P K : Int) (xs : List Int) (v : Value) (w : World) (hv : IntsAt w v xs) :
    Calls Try.prog 20 #[.agg #[.int .i64 P, .int .i64 K, v]] w fun e w' => ∃ v', e = .returned v' ∧ Ints w' w.heap.size v' (lgT P K xs) ∧ Below w.heap.size w w' := by
  have B1 : Hid (Below w.heap.size w (w.alloc (.cells #[.int .i64 P, .int .i64 K, v] 25))) := (Below.refl _ _).alloc (Nat.le_refl _) _
  obtain ⟨c, hc, hs, h1, hcv⟩ := ffAns_shape P K xs
  have HS := Lib.hid (ffOf P K xs v (w.alloc (.cells #[.int .i64 P, .int .i64 K, v] 25)) (hv.below B1.out (Nat.le_refl _)))
  rw [hc] at HS
  have hst := fun W : World => Try.storesFf W c hs h1
  obtain ⟨a, n, cap, rfl⟩ := fld_slice hv
  clear hv hc h1
  by_cases hk : fok P K xs = true
  · rw [hk] at HS
    have HC := Lib.hid (hcv hk)
    obtain ⟨p, k, rfl, rfl, h⟩ := fok_int hk
    rw [fsz_ok h] at HC
    obtain ⟨gr, hr⟩ := has_root h
    have o2 := (primF_is (prim_ex (Fp.of h) hr)).2.1
    have hq := h.2.2.1
    have q1 := q_big (Fp.of h)
    have HM := Lib.hid (fun (x y : Nat) (W : World) (hx : x < p ^ k) (hy : y < p ^ k) => imulN p k xs x y W h hx hy)
    have HP := Lib.hid (fun W : World => iprimitive p k xs W h)
    have E : Hid (lgT p k xs = vec (p ^ k) (lgC p k (cofs xs) (primF p k (cofs xs)) (p ^ k - 1))) := by
      unfold Hid lgT
      rw [if_pos hk]
      simp only [Int.toNat_natCast]
    have PL : Hid (∀ j, pw p k (cofs xs) (primF p k (cofs xs)) j < p ^ k) := fun j => pw_lt (Fp.of h) _ _
    obtain ⟨r, hr'⟩ : ∃ r, primF p k (cofs xs) = r := ⟨_, rfl⟩
    rw [hr'] at o2 HP E PL
    obtain ⟨q, hq'⟩ : ∃ q, p ^ k = q := ⟨_, rfl⟩
    rw [hq'] at o2 hq q1 HM HP E PL HC
    have FN : Hid (∀ W : World, Ff (W.alloc (.cells c 57)) W.heap.size p k q (cofs xs)) := fun W => by rw [HC.out]; exact Ff.new _ _ _ _ _
    have hmk := fun W : World => run_make_row' (P := Try.prog) 23 2 (.int .i64 0) 8 Try.underlying23 Try.infoInt rfl .i64 .i64 q (by omega) (by omega) W
    have hrow0 : Hid (∀ W : World, Ints (W.alloc (.cells (madeCells #[.int .i64 0] q) 2)) W.heap.size (.slice (some ⟨W.heap.size, 0, none⟩) q q) (vec q (fun _ => 0))) := fun W => by
      have := World.ownsRow_lit (base := W.heap.size) (e := 2) (size := 1) W (madeCells #[.int .i64 0] q) q (Nat.le_refl _) (by unfold maxLen; omega) (by simp [size_madeCells])
      rw [toList_madeCells_one] at this
      unfold Ints
      rw [vec_length, ← rep_vec]
      simpa using this
    have w2' := wrapk' (n := (q : Int) - 1) (by omega)
    simp only [ffv_lit] at HP HM
    clear hk h hr hr' hq' hcv
    go_enter Try.func20, Try.ntmps20
    go_upto_region 2 with (go_at_call 59; refine HS.out.mono ?_; rintro e w2 ⟨rfl, b2⟩; have B2 := Lib.hid (B1.out.trans (b2.mono B1.out.size)); clear b2)
    have F3 := Lib.hid (FN.out w2)
    have B3 : Hid (Below w.heap.size w (w2.alloc (.cells c 57))) := B2.out.alloc B2.out.size _
    obtain ⟨g3, hg3⟩ : ∃ g3, w2.heap.size = g3 := ⟨_, rfl⟩
    have s0 : w.heap.size ≤ g3 := by have := B2.out.size; omega
    obtain ⟨w3, hw3⟩ : ∃ w3, w2.alloc (.cells c 57) = w3 := ⟨_, rfl⟩
    rw [hw3] at F3 B3 ⊢
    rw [hg3] at F3 ⊢
    clear hw3 hg3 hst HS FN B2 B1
    have c2 := F3.out.cells.2.2
    go_upto_region 5 with fail
    have Z3 := Lib.hid (hrow0.out w3)
    have S4 : Hid (Ff (w3.alloc (.cells (madeCells #[.int .i64 0] q) 2)) g3 p k q (cofs xs) ∧ Below w.heap.size w (w3.alloc (.cells (madeCells #[.int .i64 0] q) 2))) := ⟨F3.out.next ((Below.refl _ _).alloc (Nat.le_refl _) _), B3.out.alloc B3.out.size _⟩
    obtain ⟨gz, hgz⟩ : ∃ gz, w3.heap.size = gz := ⟨_, rfl⟩
    obtain ⟨w4, hw4⟩ : ∃ w4, w3.alloc (.cells (madeCells #[.int .i64 0] q) 2) = w4 := ⟨_, rfl⟩
    have s1 : g3 < gz := by rw [← hgz]; exact F3.out.lt
    rw [hw4] at Z3 S4 ⊢
    rw [hgz] at Z3 ⊢
    clear hw4 hgz F3 B3 hmk hrow0 c2
    have fz := Z3.out.frozen 0
    have cz : w4.cell? ⟨gz, 0, none⟩ = some (.int .i64 0) := by
      have := Z3.out.cell 0 (by rw [vec_length]; omega)
      rwa [vec_getD _ _ _ (by omega)] at this
    have q0 : (0 : Int) < (q : Int) := by omega
    have N0 : Hid (Ints (w4.setCell ⟨gz, 0, none⟩ (.int .i64 (-1))) gz (.slice (some ⟨gz, 0, none⟩) q q) (vec q (lgC p k (cofs xs) r 0))) := by
      have := Z3.out.stored (vec_length _ _) 0 (-1)
      rw [vec_set] at this
      exact this
    have N3 : Hid (Ff (w4.setCell ⟨gz, 0, none⟩ (.int .i64 (-1))) g3 p k q (cofs xs) ∧ Below w.heap.size w (w4.setCell ⟨gz, 0, none⟩ (.int .i64 (-1)))) := ⟨(heap_setCell_other w4 ⟨gz, 0, none⟩ g3 _ (by show g3 ≠ gz; omega)).trans S4.out.1, S4.out.2.setCell (by show w.heap.size ≤ gz; omega) _⟩
    go_upto_region 6 with fail
    obtain ⟨w5, hw5⟩ : ∃ w5, w4.setCell ⟨gz, 0, none⟩ (.int .i64 (-1)) = w5 := ⟨_, rfl⟩
    rw [hw5] at N0 N3 ⊢
    clear hw5 Z3 S4 fz cz
    obtain ⟨p0, p1, p2, p3, p4, p5, p6, p7, p8, p9, p10, p11, p12, p13, p14⟩ := N3.out.1.all
    go_upto_region 7 with (go_at_call 60; refine (HP.out _).mono ?_; rintro e w6 ⟨rfl, b6⟩; have S6 : Hid (Ff w6 g3 p k q (cofs xs) ∧ Below w.heap.size w w6) := ⟨N3.out.1.next b6, N3.out.2.trans (b6.mono N3.out.2.size)⟩; have N6 := Lib.hid (N0.out.below b6 (Nat.le_refl _)); clear b6)
    clear N0 N3 HP p0 p1 p2 p3 p4 p5 p6 p7 p8 p9 p10 p11 p12 p13 p14
    have c2 := S6.out.1.cells.2.2
    go_wp2
    clear c2
    go_loopw [7, 26] (fun x i wr => ∃ j y : Nat, j ≤ q - 1 ∧ x = .int .i64 y ∧ i = .int .i64 j ∧ Hid (y = pw p k (cofs xs) r j) ∧ Hid (Ints wr gz (.slice (some ⟨gz, 0, none⟩) q q) (vec q (lgC p k (cofs xs) r j))) ∧ Hid (Ff wr g3 p k q (cofs xs) ∧ Below w.heap.size w wr)) (fun _ i _ => q - (intOf i).toNat)
    case atStart => exact ⟨0, 1, by omega, rfl, rfl, rfl, N6, S6⟩
    case round =>
      obtain ⟨j, y, j1, rfl, rfl, hy, hI, hS⟩ := hrel
      have yl : y < q := by rw [hy.out]; exact PL.out j
      by_cases c : j < q - 1
      · have g1 : decide ((j : Int) < (q : Int) - 1) = true := by simp; omega
        have w1' := wrapk' (n := (j : Int) + 1) (by omega)
        have y0 : (0 : Int) ≤ (y : Int) := by omega
        have y1 : (y : Int) < (q : Int) := by omega
        have fz := hI.out.frozen y
        have cz := hI.out.cell y (by rw [vec_length]; omega)
        have N0 : Hid (Ints (wr.setCell ⟨gz, y, none⟩ (.int .i64 j)) gz (.slice (some ⟨gz, 0, none⟩) q q) (vec q (lgC p k (cofs xs) r (j + 1)))) := by
          have := hI.out.stored (vec_length _ _) y j
          rw [vec_set] at this
          rw [lgC, ← hy.out]
          exact this
        have N3 : Hid (Ff (wr.setCell ⟨gz, y, none⟩ (.int .i64 j)) g3 p k q (cofs xs) ∧ Below w.heap.size w (wr.setCell ⟨gz, y, none⟩ (.int .i64 j))) := ⟨(heap_setCell_other wr ⟨gz, y, none⟩ g3 _ (by show g3 ≠ gz; omega)).trans hS.out.1, hS.out.2.setCell (by show w.heap.size ≤ gz; omega) _⟩
        have HN : Hid (fm p k (cofs xs) y r = pw p k (cofs xs) r (j + 1)) := by rw [hy.out]; rfl
        go_upto_region 12 with fail
        obtain ⟨w5, hw5⟩ : ∃ w5, wr.setCell ⟨gz, y, none⟩ (.int .i64 j) = w5 := ⟨_, rfl⟩
        rw [hw5] at N0 N3 ⊢
        clear hw5 cz fz
        obtain ⟨p0, p1, p2, p3, p4, p5, p6, p7, p8, p9, p10, p11, p12, p13, p14⟩ := N3.out.1.all
        go_wp2_with (go_at_call 61; refine (HM.out y r _ yl o2).mono ?_; rintro e w7 ⟨rfl, b7⟩; have S7 : Hid (Ff w7 g3 p k q (cofs xs) ∧ Below w.heap.size w w7) := ⟨N3.out.1.next b7, N3.out.2.trans (b7.mono N3.out.2.size)⟩; have N7 := Lib.hid (N0.out.below b7 (Nat.le_refl _)); clear b7)
        go_roundw
        case rel => exact ⟨j + 1, _, by omega, rfl, by go_num, HN, N7, S7⟩
        case measure => simp [intOf]; omega
      · have g1 : decide ((j : Int) < (q : Int) - 1) = false := by simp; omega
        have ej : j = q - 1 := by omega
        have E2 : Hid (Ints wr w.heap.size (.slice (some ⟨gz, 0, none⟩) q q) (lgT p k xs)) := by
          rw [E.out, ← ej]; exact hI.out.mono (by omega)
        clear ej
        go_wp2
        go_ret
        exact ⟨_, rfl, E2.out, hS.out.2⟩
  · have E : Hid (lgT P K xs = []) := by unfold Hid lgT; rw [if_neg hk]
    rw [Bool.not_eq_true] at hk
    rw [hk] at HS
    clear hk hcv
    go_enter Try.func20, Try.ntmps20
    go_upto_region 2 with (go_at_call 59; refine HS.out.mono ?_; rintro e w2 ⟨rfl, b2⟩; have B2 := Lib.hid (B1.out.trans (b2.mono B1.out.size)); clear b2)
    have B3 : Hid (Below w.heap.size w (w2.alloc (.cells c 57))) := B2.out.alloc B2.out.size _
    go_wp2
    go_ret
    exact ⟨_, rfl, by rw [E.out]; exact World.ownsRow_nil _ _ _ _, B3.out⟩
end Go.Proofs.Ytmlcdbjibngnkaa
