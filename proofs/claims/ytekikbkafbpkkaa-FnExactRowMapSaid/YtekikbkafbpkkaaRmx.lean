/- RowMap: both exported functions. -/
import Derived.Test.YtekikbkafbpkkaaRmp
import Derived.Deep.RegionHeld3
import Derived.StillTailTactics
namespace Go.Proofs.Ytekikbkafbpkkaa
open Go.RowKit Go.Shelf
set_option linter.unusedVariables false

set_option maxRecDepth 100000 in
set_option maxHeartbeats 8000000 in
theorem sRowMap (xss : List (List Int)) (a b : Int) (hx : SmallLL xss) (ha : I64 a) (hb : I64 b) (w : World) (v : Value) (hv : RowsAt w v xss) :
    Calls Try.prog 14 #[v, .int .i64 a, .int .i64 b] w fun e w' => ∃ r, e = .returned (.tuple #[r, .int .i64 (RowMap_1 xss a b)]) ∧ IntsAt w' r (RowMap_0 xss a b) ∧ Below w.heap.size w w' := by
  have HS := Lib.hid (sSq w v xss hv)
  have hml := hv.1
  cases hp : sqB xss with
  | false =>
    obtain ⟨va, vk, rfl, -, -⟩ := hv.cellsOf
    have V := Lib.hid (Rm_bad (a := a) (b := b) hp)
    rw [hp] at HS
    clear hp hv
    go_enter Try.func14, Try.ntmps14
    go_wp2_with fail
    refine HS.out.mono ?_
    rintro e w1 ⟨rfl, b1⟩
    have B1 := Lib.hid b1
    clear b1
    go_wp2
    go_ret2
    exact ⟨_, by rw [V.out.2]; rfl, by rw [V.out.1]; exact nilAt _, B1.out⟩
  | true =>
    have VO := Lib.hid (fun k => Rm_out (a := a) (b := b) hp k)
    have VK := Lib.hid (fun k => Rm_ok (a := a) (b := b) hp k)
    have S := of_sqB hp
    rw [hp] at HS
    have nhi := S.hi
    have nlo := S.lo
    have SR := Lib.hid S.row
    have SC := Lib.hid (fun x y hx hy => S.cell (x := x) (y := y) hx hy)
    obtain ⟨va, vk, rfl, -, hc⟩ := hv.cellsOf
    obtain ⟨n, hn⟩ : ∃ n, xss.length = n := ⟨_, rfl⟩
    have SL : Hid (∀ x, x < n → (xss.getD x []).length = n) := fun x hx => by rw [← hn] at hx ⊢; exact (SR.out x hx).1
    rw [hn] at HS VO VK nhi nlo SR SC hml hc ⊢
    have w1n := IntWalk.i64_in ((n : Int) - 1) (by omega)
    clear hp hv S hn
    by_cases k : In2 n a b
    case neg =>
      have V := Lib.hid (VO.out k)
      unfold In2 at k
      clear VO VK SR SC SL hc
      by_cases c : 0 ≤ a ∧ a ≤ (n : Int) - 1
      · have HA := Lib.hid (fun W => in_yes' a 0 ((n : Int) - 1) W c.1 c.2)
        have HB := Lib.hid (fun W => in_no' b 0 ((n : Int) - 1) W (by omega))
        clear k c
        go_enter Try.func14, Try.ntmps14
        go_wp2_with fail
        refine HS.out.mono ?_
        rintro e w1 ⟨rfl, b1⟩
        have B1 := Lib.hid b1
        clear b1
        go_wp2_with fail
        refine (HA.out _).mono ?_
        rintro e w2 ⟨rfl, rfl⟩
        go_wp2_with fail
        refine (HB.out _).mono ?_
        rintro e w3 ⟨rfl, rfl⟩
        go_wp2
        go_ret2
        exact ⟨_, by rw [V.out.2]; rfl, by rw [V.out.1]; exact nilAt _, B1.out⟩
      · have HA := Lib.hid (fun W => in_no' a 0 ((n : Int) - 1) W (by omega))
        clear k c
        go_enter Try.func14, Try.ntmps14
        go_wp2_with fail
        refine HS.out.mono ?_
        rintro e w1 ⟨rfl, b1⟩
        have B1 := Lib.hid b1
        clear b1
        go_wp2_with fail
        refine (HA.out _).mono ?_
        rintro e w2 ⟨rfl, rfl⟩
        go_wp2
        go_ret2
        exact ⟨_, by rw [V.out.2]; rfl, by rw [V.out.1]; exact nilAt _, B1.out⟩
    have V := Lib.hid (VK.out k)
    unfold In2 at k
    obtain ⟨⟨a0, a1⟩, b0, b1⟩ := k
    obtain ⟨A, rfl⟩ : ∃ A : Nat, a = A := ⟨a.toNat, by omega⟩
    obtain ⟨B, rfl⟩ : ∃ B : Nat, b = B := ⟨b.toNat, by omega⟩
    rw [Int.toNat_natCast, Int.toNat_natCast] at V
    have A1 : A < n := by omega
    have B1 : B < n := by omega
    have HA := Lib.hid (fun W => in_yes' (A : Int) 0 ((n : Int) - 1) W (by omega) (by omega))
    have HB := Lib.hid (fun W => in_yes' (B : Int) 0 ((n : Int) - 1) W (by omega) (by omega))
    obtain ⟨g, off, u1, rfl, hg, c1, i1⟩ := hc A A1
    obtain ⟨g2, off2, u2, e2, hg2, c2, i2⟩ := hc B B1
    simp only [Option.some.injEq, Addr.mk.injEq] at e2
    obtain ⟨rfl, rfl, -⟩ := e2
    have PA := SR.out A A1
    have PB := SL.out B B1
    have H1 := Lib.hid (fun W (h : Below w.heap.size w W) => sBack W u1 _ (i1.below h (Nat.le_refl _)).1 (fun i hi => by rw [SL.out A A1] at hi ⊢; exact pm_mem (SL.out A A1) PA.2 hi) (by rw [SL.out A A1]; omega))
    have H2 := Lib.hid (fun W r (hr : IntsAt W r (bck (xss.getD A []))) (h : Below w.heap.size w W) => sTimes W r u2 _ _ hr (i2.below h (Nat.le_refl _)).1 (fun i hi => by rw [PB]; exact bck_range nlo (SL.out A A1) i) (by rw [bck_length, SL.out A A1]; omega))
    have C1 := Lib.hid (fun W (h : Below w.heap.size w W) => (h.cell (p := ⟨g, off + A, none⟩) hg).trans c1)
    have C2 := Lib.hid (fun W (h : Below w.heap.size w W) => (h.cell (p := ⟨g, off + B, none⟩) hg).trans c2)
    clear hc VO VK SR SC SL PA PB i1 i2 c1 c2 hg2 a1 b1
    obtain ⟨R, hR⟩ : ∃ R, bck (xss.getD A []) = R := ⟨_, rfl⟩
    rw [hR] at V
    simp only [hR] at H1 H2
    obtain ⟨Q, hQ⟩ : ∃ Q, tms R (xss.getD B []) = Q := ⟨_, rfl⟩
    rw [hQ] at V
    simp only [hQ] at H2
    clear hR hQ
    have a1 : (A : Int) < (n : Int) := by omega
    have b1 : (B : Int) < (n : Int) := by omega
    go_enter Try.func14, Try.ntmps14
    go_wp2_with fail
    refine HS.out.mono ?_
    rintro e w1 ⟨rfl, b1'⟩
    have BB := Lib.hid b1'
    clear b1'
    go_wp2_with fail
    refine (HA.out _).mono ?_
    rintro e w2 ⟨rfl, rfl⟩
    go_wp2_with fail
    refine (HB.out _).mono ?_
    rintro e w3 ⟨rfl, rfl⟩
    have BD : Hid (Below w.heap.size w w3.drew) := BB.out.drew
    have d1 := C1.out _ BD.out
    have d2 := C2.out _ BD.out
    go_wp2
    go_region_held3 (fun w' => w'.cell? ⟨g, off + A, none⟩ = some u1 ∧ w'.cell? ⟨g, off + B, none⟩ = some u2) (first | exact ⟨by assumption, by assumption⟩)
      (first
        | (go_at_call 41; refine (H1.out _ BD.out).mono ?_; rintro e w4 ⟨r4, rfl, i4, b4⟩; have BD4 := Lib.hid (t_chain BD.out b4); have d14 := C1.out _ BD4.out; have d24 := C2.out _ BD4.out; have I4 := Lib.hid i4.at; clear i4 b4)
        | (go_at_call 40; refine (H2.out _ _ I4.out BD4.out).mono ?_; rintro e w5 ⟨r5, rfl, i5, b5⟩; have BD5 := Lib.hid (t_chain BD4.out b5); have d15 := C1.out _ BD5.out; have d25 := C2.out _ BD5.out; have I5 := Lib.hid i5.at; clear i5 b5))
    go_wp2
    go_ret2
    exact ⟨_, by rw [V.out.2]; rfl, by rw [V.out.1]; exact I5.out, BD5.out⟩

set_option maxRecDepth 100000 in
set_option maxHeartbeats 8000000 in
theorem iRowMap (xss : List (List Int)) (a b : Int) (hx : SmallLL xss) (ha : I64 a) (hb : I64 b) (w : World) (v : Value) (hv : RowsAt w v xss) :
    Calls Try.prog 16 #[v, .int .i64 a, .int .i64 b] w fun e w' => ∃ r, e = .returned (.tuple #[r, .int .i64 (RowMap_1 xss a b)]) ∧ Ints w' w.heap.size r (RowMap_0 xss a b) ∧ Below w.heap.size w w' := by
  have H0 := Lib.hid (ilsq w v xss hv)
  cases hp : sqB xss with
  | false =>
    have V := Lib.hid (Rm_bad (a := a) (b := b) hp)
    rw [hp] at H0
    clear hp hv
    go_enter Try.func16, Try.ntmps16
    go_wp2_with fail
    refine H0.out.mono ?_
    rintro e w4 ⟨m, f, rfl, -, b4⟩
    have st := stores_newSq w4 (sqC m f)
    have B5 : Hid (Below w.heap.size w (w4.alloc (.cells (iar 101 (sqC m f)) 52))) := b4.alloc b4.size _
    clear b4
    go_wp2
    go_ret2
    exact ⟨_, by rw [V.out.2]; rfl, by rw [V.out.1]; exact nilI _ _, B5.out⟩
  | true =>
    have VO := Lib.hid (fun k => Rm_out (a := a) (b := b) hp k)
    have VK := Lib.hid (fun k => Rm_ok (a := a) (b := b) hp k)
    have S := of_sqB hp
    rw [hp] at H0
    have nhi := S.hi
    have nlo := S.lo
    have SR := Lib.hid S.row
    have SC := Lib.hid (fun x y hx hy => S.cell (x := x) (y := y) hx hy)
    obtain ⟨n, hn⟩ : ∃ n, xss.length = n := ⟨_, rfl⟩
    have SL : Hid (∀ x, x < n → (xss.getD x []).length = n ∧ pmB (xss.getD x []) = true) := fun x hx => by rw [← hn] at hx ⊢; exact SR.out x hx
    rw [hn] at H0 VO VK nhi nlo SC
    have HN := Lib.hid hn
    clear hp hv S hn SR
    go_enter Try.func16, Try.ntmps16
    go_wp2_with fail
    refine H0.out.mono ?_
    rintro e w4 ⟨m, f, rfl, hmf2, b4⟩
    obtain ⟨hm1, hm2⟩ := hmf2 (by trivial)
    rw [hm1, hm2]
    clear hmf2 hm1 hm2
    have s4 := b4.size
    have FC : Hid (∀ x y, x < n → y < n → sqF n (cellF xss) x y = (xss.getD x []).getD y 0 ∧ 0 ≤ sqF n (cellF xss) x y ∧ sqF n (cellF xss) x y < n) := fun x y hx hy => by
      rw [sqF_in _ hx hy]; exact ⟨rfl, SC.out x y hx hy⟩
    obtain ⟨F, hF⟩ : ∃ F, sqF n (cellF xss) = F := ⟨_, rfl⟩
    rw [hF] at FC ⊢
    have st := stores_newSq w4 (sqC n F)
    have b5 : Below w.heap.size w (w4.alloc (.cells (iar 101 (sqC n F)) 52)) := b4.alloc s4 _
    have A5 : SqAt (w4.alloc (.cells (iar 101 (sqC n F)) 52)) w4.heap.size n F := heap_alloc_new _ _
    have q5 : (w4.alloc (.cells (iar 101 (sqC n F)) 52)).heap.size = w4.heap.size + 1 := World.size_alloc _ _
    obtain ⟨w5, hw5⟩ : ∃ w5, w4.alloc (.cells (iar 101 (sqC n F)) 52) = w5 := ⟨_, rfl⟩
    obtain ⟨g, hg⟩ : ∃ g, w4.heap.size = g := ⟨_, rfl⟩
    rw [hw5] at st b5 A5 q5
    rw [hg] at st A5 q5
    have or5 := SqAt.order A5
    have B5 := Lib.hid b5
    by_cases k : In2 n a b
    case neg =>
      have V := Lib.hid (VO.out k)
      unfold In2 at k
      clear b4 b5 A5 hF H0 VO VK SL SC FC
      by_cases c : a < 0
      · have t1 : decide (a < 0) = true := decide_eq_true c
        clear k c
        go_wp2
        go_ret2
        exact ⟨_, by rw [V.out.2]; rfl, by rw [V.out.1]; exact nilI _ _, B5.out⟩
      · have t1 : decide (a < 0) = false := decide_eq_false c
        by_cases c2 : (n : Int) ≤ a
        · have t2 : decide ((n : Int) ≤ a) = true := decide_eq_true c2
          clear k c c2
          go_wp2
          go_ret2
          exact ⟨_, by rw [V.out.2]; rfl, by rw [V.out.1]; exact nilI _ _, B5.out⟩
        · have t2 : decide ((n : Int) ≤ a) = false := decide_eq_false c2
          by_cases c3 : b < 0
          · have t3 : decide (b < 0) = true := decide_eq_true c3
            clear k c c2 c3
            go_wp2
            go_ret2
            exact ⟨_, by rw [V.out.2]; rfl, by rw [V.out.1]; exact nilI _ _, B5.out⟩
          · have t3 : decide (b < 0) = false := decide_eq_false c3
            have t4 : decide ((n : Int) ≤ b) = true := decide_eq_true (by omega)
            clear k c c2 c3
            go_wp2
            go_ret2
            exact ⟨_, by rw [V.out.2]; rfl, by rw [V.out.1]; exact nilI _ _, B5.out⟩
    have V := Lib.hid (VK.out k)
    unfold In2 at k
    obtain ⟨⟨a0, a1⟩, b0, b1⟩ := k
    obtain ⟨A, rfl⟩ : ∃ A : Nat, a = A := ⟨a.toNat, by omega⟩
    obtain ⟨C, rfl⟩ : ∃ C : Nat, b = C := ⟨b.toNat, by omega⟩
    rw [Int.toNat_natCast, Int.toNat_natCast] at V
    have A1 : A < n := by omega
    have C1 : C < n := by omega
    have t1 : decide ((A : Int) < 0) = false := decide_eq_false (by omega)
    have t2 : decide ((n : Int) ≤ (A : Int)) = false := decide_eq_false (by omega)
    have t2' : decide (n ≤ A) = false := decide_eq_false (by omega)
    have t3 : decide ((C : Int) < 0) = false := decide_eq_false (by omega)
    have t4 : decide ((n : Int) ≤ (C : Int)) = false := decide_eq_false (by omega)
    have t4' : decide (n ≤ C) = false := decide_eq_false (by omega)
    have ps1 := SL.out A A1
    obtain ⟨ps, hps⟩ : ∃ ps, xss.getD A [] = ps := ⟨_, rfl⟩
    obtain ⟨qs, hqs⟩ : ∃ qs, xss.getD C [] = qs := ⟨_, rfl⟩
    rw [hps] at ps1
    rw [hps, hqs] at V
    have ALL := Lib.hid (rmC_all (qs := qs) ps1.1 ps1.2)
    have STEP : Hid (∀ y, y < n → ∃ (t : Nat) (z : Int), F A y = t ∧ t < n ∧ F C y = z ∧ rmC ps qs (y + 1) = updI (rmC ps qs y) t z) := fun y hy => by
      obtain ⟨e1, l1, l2⟩ := FC.out A y A1 hy
      obtain ⟨e2, -, -⟩ := FC.out C y C1 hy
      refine ⟨(F A y).toNat, F C y, by omega, by omega, rfl, ?_⟩
      rw [rmC, e1, e2, hps, hqs]
    have hmk := run_make_row' (P := Try.prog) 26 2 (.int .i64 0) 8 Try.underlying26 Try.infoInt rfl .i64 .i64 n (by omega) (by omega) w5
    have IA := made_ia w5 2 n
    have b6 : Below w.heap.size w (w5.alloc (.cells (madeCells #[.int .i64 0] n) 2)) := b5.alloc b5.size _
    have A6 : SqAt (w5.alloc (.cells (madeCells #[.int .i64 0] n) 2)) g n F := (heap_alloc_old _ _ (by omega)).trans A5
    obtain ⟨w6, hw6⟩ : ∃ w6, w5.alloc (.cells (madeCells #[.int .i64 0] n) 2) = w6 := ⟨_, rfl⟩
    rw [hw6] at hmk IA b6 A6
    obtain ⟨B, hB⟩ : ∃ B, w5.heap.size = B := ⟨_, rfl⟩
    rw [hB] at hmk IA q5
    have hwB : w.heap.size ≤ B := by rw [← hB]; exact b5.size
    have gB : g < B := by omega
    have I6 : Hid (Ia w6 2 B n (rmC ps qs 0)) := IA
    have X6 := Lib.hid A6
    have B6 := Lib.hid b6
    have or6 := SqAt.order A6
    clear b4 b5 A5 hF H0 VO VK SL SC FC IA b6 A6 hps hqs ps1 q5 a1 b1
    have a1 : (A : Int) < (10 : Int) := by omega
    have c1 : (C : Int) < (10 : Int) := by omega
    go_wp2
    clear hmk st or5 or6 hw5 hw6 hB hg
    go_loopw [42] (fun i wr => ∃ y : Nat, y ≤ n ∧ i = .int .i64 y ∧ Hid (Ia wr 2 B n (rmC ps qs y)) ∧ Hid (SqAt wr g n F) ∧ Hid (Below w.heap.size w wr)) (fun i _ => n - (intOf i).toNat)
    case atStart => exact ⟨0, by omega, rfl, I6, X6, B6⟩
    case round =>
      obtain ⟨y, hy, rfl, hI, hA, hBl⟩ := hrel
      by_cases c : y < n
      · have k1 : decide (y < n) = true := by simpa using c
        have k1' : decide ((y : Int) < (n : Int)) = true := decide_eq_true (by omega)
        have w3 := IntWalk.i64_in ((y : Int) + 1) (by omega)
        have y0 : (0 : Int) ≤ (y : Int) := by omega
        have y1 : (y : Int) < 10 := by omega
        obtain ⟨t, z, h1, h2, h3, h4⟩ := STEP.out y c
        have t0' : (0 : Int) ≤ (t : Int) := by omega
        have t1'' : (t : Int) < (n : Int) := by omega
        obtain ⟨wd, hwd⟩ : ∃ wd, wr.drew = wd := ⟨_, rfl⟩
        have D1 : SqAt wd g n F := by rw [← hwd]; exact hA.out
        have D2 : Ia wd 2 B n (rmC ps qs y) := by rw [← hwd]; exact hI.out
        have D3 : Below w.heap.size w wd := by rw [← hwd]; exact hBl.out.drew
        have m1 := Ia.cell D1 (1 + A * 10 + y) (by omega)
        rw [sqC_at _ _ (by omega), h1] at m1
        have m2 := Ia.cell D1 (1 + C * 10 + y) (by omega)
        rw [sqC_at _ _ (by omega), h3] at m2
        have oc := D2.cell t h2
        have fz := D2.frozen t
        have S1 : Hid (Ia (wd.setCell ⟨B, t, none⟩ (.int .i64 z)) 2 B n (rmC ps qs (y + 1))) := by
          have := D2.set t z
          rw [← h4] at this
          exact this
        have S2 : Hid (SqAt (wd.setCell ⟨B, t, none⟩ (.int .i64 z)) g n F) := (Below.heap_setCell wd ⟨B, t, none⟩ _ g (by simp only; omega)).trans D1
        have S3 : Hid (Below w.heap.size w (wd.setCell ⟨B, t, none⟩ (.int .i64 z))) := D3.setCell (p := ⟨B, t, none⟩) hwB _
        clear D1 D2 D3 h1 h3 h4
        go_wp2
        refine wp_region_still_tail 14 (by kernel_rfl) (by kernel_rfl) ?_
        simp only [List.take_succ_cons, List.take_zero, List.drop_succ_cons, List.drop_zero]
        change wpStill _ _ wr.drew _ _ _
        rw [hwd]
        repeat still_step
        refine wpStill_nil ?_
        change wpList _ _ _ _ _ wr.drew
        rw [hwd]
        clear hwd
        go_wp2
        go_roundw
        case rel => exact ⟨y + 1, by omega, by go_num, S1, S2, S3⟩
        case measure => simp [intOf]; omega
      · have k1 : decide (y < n) = false := by simpa using c
        have k1' : decide ((y : Int) < (n : Int)) = false := decide_eq_false (by omega)
        obtain rfl : y = n := by omega
        have R := (hI.out.ints (B := w.heap.size) hwB (by unfold maxLen; omega))
        rw [ALL.out] at R
        have RR := Lib.hid R
        clear R
        go_wp2
        go_ret2
        exact ⟨_, by rw [V.out.2]; rfl, by rw [V.out.1]; exact RR.out, hBl.out⟩
end Go.Proofs.Ytekikbkafbpkkaa
