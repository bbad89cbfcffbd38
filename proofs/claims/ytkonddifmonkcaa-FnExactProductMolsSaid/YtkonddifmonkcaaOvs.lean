/- Two squares over one another: the model; Superpose. -/
import Derived.Test.YtkonddifmonkcaaOva
namespace Go.Proofs.Ytkonddifmonkcaa
open Go.RowKit
set_option linter.unusedVariables false

set_option maxRecDepth 100000 in
set_option maxHeartbeats 8000000 in
theorem sOver (n : Nat) (l1 : 1 ≤ n) (l2 : n ≤ 10) (w : World) (v u : Value) (xss yss : List (List Int)) (hv : RowsAt w v xss) (hu : RowsAt w u yss)
    (lx : xss.length = n) (ly : yss.length = n) (hrx : ∀ x, x < n → (xss.getD x []).length = n) (hry : ∀ x, x < n → (yss.getD x []).length = n) (jf : InSq n (cellF xss)) (jg : InSq n (cellF yss)) :
    Calls Try.prog 46 #[v, u] w fun e w' => ∃ r, e = .returned r ∧ RowsL w' w.heap.size w'.heap.size r (gridL n n (overF n (cellF xss) (cellF yss))) ∧ Below w.heap.size w w' := by
  obtain ⟨va, vk, rfl, k0⟩ := hv.look lx hrx
  obtain ⟨ua, uk, rfl, k1⟩ := hu.look ly hry
  have HK0 := Lib.hid k0
  have HK1 := Lib.hid k1
  have JF := Lib.hid jf
  have JG := Lib.hid jg
  have HZ := Lib.hid (sZero n n (by omega) (by omega) w)
  have wo := IntWalk.i64_in (n : Int) (by omega)
  have PF : Hid (∀ x y, overF n (cellF xss) (cellF yss) x y = (n : Int) * cellF xss x y + cellF yss x y) := fun x y => rfl
  obtain ⟨pf, hpf⟩ : ∃ pf, overF n (cellF xss) (cellF yss) = pf := ⟨_, rfl⟩
  rw [hpf] at PF ⊢
  have FS : Hid (∀ x y, y < n → upd2 (fillF n pf x y) x y (pf x y) = fillF n pf x (y + 1)) := fun x y h => fillF_step _ h
  have FR : Hid (∀ x, fillF n pf x n = fillF n pf (x + 1) 0) := fun x => fillF_row n _ x
  have FA : Hid (gridL n n (fillF n pf n 0) = gridL n n pf) := by unfold Hid; rw [fillF_all, gridL_sqF]
  have F0 : Hid (gridL n n (fillF n pf 0 0) = gridL n n (fun _ _ => 0)) := by unfold Hid; rw [fillF_zero]
  clear hv hu k0 k1 hrx hry jf jg hpf lx ly
  go_enter Try.func46, Try.ntmps46
  go_wp2_with fail
  refine HZ.out.mono ?_
  rintro e w1 ⟨ov, rfl, r1, b1⟩
  obtain ⟨g0, c0, rfl⟩ := r1.parts l1
  obtain ⟨Z, hZ⟩ : ∃ Z, w1.heap.size = Z := ⟨_, rfl⟩
  rw [hZ, ← F0.out] at r1
  have R1 := Lib.hid r1
  have B1 := Lib.hid b1
  have zz1 : Hid (w1.heap.size = Z) := hZ
  clear r1 b1 hZ HZ
  go_wp2
  go_loopw [7] (fun i wr => ∃ x : Nat, x ≤ n ∧ i = .int .i64 x ∧ Hid (RowsL wr w.heap.size Z (.slice (some ⟨g0, 0, none⟩) n c0) (gridL n n (fillF n pf x 0))) ∧ Hid (Below w.heap.size w wr) ∧ Hid (wr.heap.size = Z)) (fun i _ => n - (intOf i).toNat)
  case atStart => exact ⟨0, by omega, rfl, R1, B1, zz1⟩
  case round =>
    obtain ⟨x, hx, rfl, hR, hBl, hz⟩ := hrel
    by_cases c : x < n
    · have k1 : decide (x < n) = true := by simpa using c
      have k1' : decide ((x : Int) < (n : Int)) = true := decide_eq_true (by omega)
      have w3 := IntWalk.i64_in ((x : Int) + 1) (by omega)
      have x0 : (0 : Int) ≤ (x : Int) := by omega
      have x1 : (x : Int) < (n : Int) := by omega
      obtain ⟨wq, rfl⟩ : ∃ wq : World, wq = wr := ⟨_, rfl⟩
      go_wp2
      go_loopw [8] (fun i wr => ∃ y : Nat, y ≤ n ∧ i = .int .i64 y ∧ Hid (RowsL wr w.heap.size Z (.slice (some ⟨g0, 0, none⟩) n c0) (gridL n n (fillF n pf x y))) ∧ Hid (Below w.heap.size w wr) ∧ Hid (wr.heap.size = Z)) (fun i _ => n - (intOf i).toNat)
      case atStart => exact ⟨0, by omega, rfl, hR, hBl, hz⟩
      case round =>
        obtain ⟨y, hy, rfl, hR2, hBl2, hz2⟩ := hrel
        by_cases c2 : y < n
        · have k2 : decide (y < n) = true := by simpa using c2
          have k2' : decide ((y : Int) < (n : Int)) = true := decide_eq_true (by omega)
          have w4 := IntWalk.i64_in ((y : Int) + 1) (by omega)
          have y0 : (0 : Int) ≤ (y : Int) := by omega
          have y1 : (y : Int) < (n : Int) := by omega
          have fs := FS.out x y c2
          rw [PF.out x y] at fs
          obtain ⟨wd, hwd⟩ : ∃ wd, wr.drew = wd := ⟨_, rfl⟩
          have hR3 : RowsL wd w.heap.size Z (.slice (some ⟨g0, 0, none⟩) n c0) (gridL n n (fillF n pf x y)) := by rw [← hwd]; exact hR2.out
          have hB3 : Below w.heap.size w wd := by rw [← hwd]; exact hBl2.out.drew
          have hz3 : wd.heap.size = Z := by rw [← hwd]; exact hz2.out
          have ju := JF.out x y c c2
          have jv := JG.out x y c c2
          obtain ⟨ga, fa, ga2, fa2, ca2, rfl, m1, m2⟩ := HK0.out wd hB3 x y c c2
          obtain ⟨gb, fb, gb2, fb2, cb2, rfl, m3, m4⟩ := HK1.out wd hB3 x y c c2
          obtain ⟨s, hs⟩ : ∃ s, cellF xss x y = s := ⟨_, rfl⟩
          obtain ⟨t, ht⟩ : ∃ t, cellF yss x y = t := ⟨_, rfl⟩
          rw [hs] at m2 ju fs
          rw [ht] at m4 jv fs
          have mu0 : 0 ≤ (n : Int) * s := Int.mul_nonneg (by omega) ju.1
          have mu1 : (n : Int) * s ≤ 10 * 10 := Int.mul_le_mul (by omega) (by omega) ju.1 (by omega)
          obtain ⟨M, hM⟩ : ∃ M, (n : Int) * s = M := ⟨_, rfl⟩
          rw [hM] at mu0 mu1 fs
          have a5 := IntWalk.i64_in M (by omega)
          have a6 := IntWalk.i64_in (M + t) (by omega)
          obtain ⟨g0', c0', g, cc, e0, d1, d2, d3, d4, d5, d6⟩ := gridSet hR3 c c2
          simp only [Value.slice.injEq, Option.some.injEq, Addr.mk.injEq] at e0
          obtain ⟨⟨rfl, -⟩, -, rfl⟩ := e0
          have S1 : Hid (RowsL (wd.setCell ⟨g, y, none⟩ (.int .i64 (M + t))) w.heap.size Z (.slice (some ⟨g0, 0, none⟩) n c0) (gridL n n (fillF n pf x (y + 1)))) := by have := d6 (M + t); rwa [fs] at this
          have S2 : Hid (Below w.heap.size w (wd.setCell ⟨g, y, none⟩ (.int .i64 (M + t)))) := hB3.setCell (p := ⟨g, y, none⟩) d4 _
          have S3 : Hid ((wd.setCell ⟨g, y, none⟩ (.int .i64 (M + t))).heap.size = Z) := by unfold Hid; rw [← hz3]; simp [World.setCell]
          clear fs hR3 d6 hB3 hs ht
          go_wp2
          refine wp_region_still_tail 23 (by kernel_rfl) (by kernel_rfl) ?_
          simp only [List.take_succ_cons, List.take_zero, List.drop_succ_cons, List.drop_zero]
          change wpStill _ _ wr.drew _ _ _
          rw [hwd]
          repeat still_step
          refine wpStill_nil ?_
          change wpList _ _ _ _ _ wr.drew
          rw [hwd]
          clear hwd
          go_wp2
          go_roundw
          case rel => exact ⟨y + 1, by omega, by go_num, S1, S2, S3⟩
          case measure => simp [intOf]; omega
        · have k2 : decide (y < n) = false := by simpa using c2
          have k2' : decide ((y : Int) < (n : Int)) = false := decide_eq_false (by omega)
          obtain rfl : y = n := by omega
          go_wp2
          go_roundw
          case rel => exact ⟨x + 1, by omega, by go_num, by unfold Hid; rw [← FR.out]; exact hR2.out, hBl2, hz2⟩
          case measure => simp [intOf]; omega
    · have k1 : decide (x < n) = false := by simpa using c
      have k1' : decide ((x : Int) < (n : Int)) = false := decide_eq_false (by omega)
      obtain rfl : x = n := by omega
      have hR' := hR.out
      rw [FA.out, ← hz.out] at hR'
      have RR := Lib.hid hR'
      clear hR'
      go_wp2
      go_ret
      exact ⟨_, rfl, RR.out, hBl.out⟩

set_option maxRecDepth 100000 in
set_option maxHeartbeats 4000000 in
theorem sSuperpose (xss yss : List (List Int)) (hx : SmallLL xss) (hy : SmallLL yss) (w : World) (v u : Value) (hv : RowsAt w v xss) (hu : RowsAt w u yss) :
    Calls Try.prog 21 #[v, u] w fun e w' => ∃ r, e = .returned (.tuple #[r, .int .i64 (Superpose_1 xss yss)]) ∧ RowsAt w' r (Superpose_0 xss yss) ∧ Below w.heap.size w w' := by
  have HA := Lib.hid (sSq w v xss hv)
  have HU := Lib.hid (fun W (b : Below w.heap.size w W) => sSq W u yss (hu.below b (Nat.le_refl _)))
  have VB := Lib.hid (fun k => Sup_bad (xss := xss) (yss := yss) k)
  have VF := Lib.hid (fun k => Sup_far (xss := xss) (yss := yss) k)
  have VO := Lib.hid (fun k => Sup_ok (xss := xss) (yss := yss) k)
  have SA := Lib.hid (fun k => of_sqB (xss := xss) k)
  have SB := Lib.hid (fun k => of_sqB (xss := yss) k)
  have HV := Lib.hid (fun W (b : Below w.heap.size w W) => And.intro (hv.below b (Nat.le_refl _)) (hu.below b (Nat.le_refl _)))
  have hm1 := hv.1
  have hm2 := hu.1
  obtain ⟨va, vk, rfl, -, -⟩ := hv.cellsOf
  obtain ⟨ua, uk, rfl, -, -⟩ := hu.cellsOf
  obtain ⟨z1, hz1⟩ : ∃ z, sqB xss = z := ⟨_, rfl⟩
  obtain ⟨z2, hz2⟩ : ∃ z, sqB yss = z := ⟨_, rfl⟩
  rw [hz1] at HA
  simp only [hz2] at HU
  simp only [hz1, hz2] at VB VF VO SA SB
  obtain ⟨n, hn⟩ : ∃ n, xss.length = n := ⟨_, rfl⟩
  obtain ⟨m, hm⟩ : ∃ m, yss.length = m := ⟨_, rfl⟩
  have HN := Lib.hid hn
  have HM := Lib.hid hm
  rw [hn] at HA HV VF VO hm1 ⊢
  rw [hm] at HU HV VF VO hm2 ⊢
  clear hv hu hx hy hz1 hz2 hn hm
  cases z1 with
  | false =>
    have V := Lib.hid (VB.out (by simp))
    clear VB VF VO SA SB
    go_enter Try.func21, Try.ntmps21
    go_wp2_with fail
    refine HA.out.mono ?_
    rintro e w1 ⟨rfl, b1⟩
    have B1 := Lib.hid b1
    clear b1
    go_wp2
    go_ret2
    exact ⟨_, by rw [V.out.2]; rfl, by rw [V.out.1]; exact RowsAt.nil _ _ _, B1.out⟩
  | true =>
    cases z2 with
    | false =>
      have V := Lib.hid (VB.out (by simp))
      clear VB VF VO SA SB
      go_enter Try.func21, Try.ntmps21
      go_wp2_with fail
      refine HA.out.mono ?_
      rintro e w1 ⟨rfl, b1⟩
      have B1 := Lib.hid b1
      clear b1
      go_wp2_with fail
      refine (HU.out w1 B1.out).mono ?_
      rintro e w2 ⟨rfl, b2⟩
      have B2 := Lib.hid (t_chain B1.out b2)
      clear b2
      go_wp2
      go_ret2
      exact ⟨_, by rw [V.out.2]; rfl, by rw [V.out.1]; exact RowsAt.nil _ _ _, B2.out⟩
    | true =>
      have S1 := SA.out (by trivial)
      have S2 := SB.out (by trivial)
      have l1 := S1.lo
      have l2 := S1.hi
      have l3 := S2.lo
      have l4 := S2.hi
      have r1 := S1.rowLen
      have r2 := S2.rowLen
      have i1 := S1.inSq
      have i2 := S2.inSq
      rw [HN.out] at l1 l2 r1 i1
      rw [HM.out] at l3 l4 r2 i2
      have VF2 := Lib.hid (VF.out (by simp))
      have VO2 := Lib.hid (VO.out (by simp))
      by_cases k : n = m
      · subst k
        have V := Lib.hid (VO2.out rfl)
        have SP2 := Lib.hid (fun W (b : Below w.heap.size w W) => sOver n l1 l2 W _ _ xss yss (HV.out W b).1 (HV.out W b).2 HN.out HM.out r1 r2 i1 i2)
        have e1 : ((n : Int) != (n : Int)) = false := by simp
        have e1' : (n != n) = false := by simp
        clear VB VF VO SA SB VF2 VO2 S1 S2 r1 r2 i1 i2
        go_enter Try.func21, Try.ntmps21
        go_wp2_with fail
        refine HA.out.mono ?_
        rintro e w1 ⟨rfl, b1⟩
        have B1 := Lib.hid b1
        clear b1
        go_wp2_with fail
        refine (HU.out w1 B1.out).mono ?_
        rintro e w2 ⟨rfl, b2⟩
        have B2 := Lib.hid (t_chain B1.out b2)
        clear b2
        go_wp2_with fail
        refine (SP2.out w2 B2.out).mono ?_
        rintro e w3 ⟨r, rfl, r3, b3⟩
        have R3 := Lib.hid r3.at
        have B3 := Lib.hid (t_chain B2.out b3)
        clear r3 b3
        go_wp2
        go_ret2
        exact ⟨_, by rw [V.out.2]; rfl, by rw [V.out.1]; exact R3.out, B3.out⟩
      · have V := Lib.hid (VF2.out k)
        have e1 : ((n : Int) != (m : Int)) = true := by simp; omega
        have e1' : (n != m) = true := by simp [k]
        clear VB VF VO SA SB VF2 VO2 S1 S2 r1 r2 i1 i2 k
        go_enter Try.func21, Try.ntmps21
        go_wp2_with fail
        refine HA.out.mono ?_
        rintro e w1 ⟨rfl, b1⟩
        have B1 := Lib.hid b1
        clear b1
        go_wp2_with fail
        refine (HU.out w1 B1.out).mono ?_
        rintro e w2 ⟨rfl, b2⟩
        have B2 := Lib.hid (t_chain B1.out b2)
        clear b2
        go_wp2
        go_ret2
        exact ⟨_, by rw [V.out.2]; rfl, by rw [V.out.1]; exact RowsAt.nil _ _ _, B2.out⟩
end Go.Proofs.Ytkonddifmonkcaa
