/- Orthogonal squares: the model. -/
import Derived.Test.YtkonddifmonkcaaOvs
import Derived.Test.YtkonddifmonkcaaBa
namespace Go.Proofs.Ytkonddifmonkcaa
open Go.RowKit
set_option linter.unusedVariables false

theorem Try.infoBoo : (Try.prog.info? 4).map (fun i => (i.zero, i.size, i.bytes)) = some (some (.bool false), 1, 1) := by kernel_rfl
theorem made_bz (w : World) (T : TypeId) (n : Nat) : Ba (w.alloc (.cells (madeCells #[.bool false] n) T)) T w.heap.size n (fun _ => false) := by
  unfold Ba
  rw [heap_alloc_new]
  have : madeCells #[Value.bool false] n = bar n (fun _ => false) := by
    apply Array.toList_inj.1
    rw [toList_madeCells_one]
    unfold bar
    rw [List.map_const', List.length_range]
  rw [this]
set_option maxRecDepth 100000 in
set_option maxHeartbeats 8000000 in
theorem sOrtho (xss yss : List (List Int)) (w : World) (v u : Value) (hv : RowsAt w v xss) (hu : RowsAt w u yss) :
    Calls Try.prog 40 #[v, u] w fun e w' => e = .returned (.bool (Orthogonal_0 xss yss)) ∧ Below w.heap.size w w' := by
  have HA := Lib.hid (sSq w v xss hv)
  have HU := Lib.hid (fun W (b : Below w.heap.size w W) => sSq W u yss (hu.below b (Nat.le_refl _)))
  have VB := Lib.hid (fun k => Orth_no (xss := xss) (yss := yss) k)
  have VO := Lib.hid (fun k => Orth_ok (xss := xss) (yss := yss) k)
  have SA := Lib.hid (fun k => of_sqB (xss := xss) k)
  have SB := Lib.hid (fun k => of_sqB (xss := yss) k)
  have HV := Lib.hid (fun W (b : Below w.heap.size w W) => And.intro (hv.below b (Nat.le_refl _)) (hu.below b (Nat.le_refl _)))
  have hm1 := hv.1
  have hm2 := hu.1
  obtain ⟨va, vk, rfl, -, -⟩ := hv.cellsOf
  obtain ⟨ua, uk, rfl, -, -⟩ := hu.cellsOf
  obtain ⟨z1, hz1⟩ : ∃ z, sqB xss = z := ⟨_, rfl⟩
  obtain ⟨z2, hz2⟩ : ∃ z, sqB yss = z := ⟨_, rfl⟩
  rw [hz1] at HA
  simp only [hz2] at HU
  simp only [hz1, hz2] at VB VO SA SB
  obtain ⟨n, hn⟩ : ∃ n, xss.length = n := ⟨_, rfl⟩
  obtain ⟨m, hm⟩ : ∃ m, yss.length = m := ⟨_, rfl⟩
  have HN := Lib.hid hn
  have HM := Lib.hid hm
  rw [hn] at HA HV VB VO hm1 ⊢
  rw [hm] at HU HV VB VO hm2 ⊢
  clear hv hu hz1 hz2 hn hm
  cases z1 with
  | false =>
    have V := Lib.hid (VB.out (by simp))
    clear VB VO SA SB
    go_enter Try.func40, Try.ntmps40
    go_wp2_with fail
    refine HA.out.mono ?_
    rintro e w1 ⟨rfl, b1⟩
    have B1 := Lib.hid b1
    clear b1
    go_wp2
    go_ret
    exact ⟨by rw [V.out]; rfl, B1.out⟩
  | true =>
    cases z2 with
    | false =>
      have V := Lib.hid (VB.out (by simp))
      clear VB VO SA SB
      go_enter Try.func40, Try.ntmps40
      go_wp2_with fail
      refine HA.out.mono ?_
      rintro e w1 ⟨rfl, b1⟩
      have B1 := Lib.hid b1
      clear b1
      go_wp2_with fail
      refine (HU.out w1 B1.out).mono ?_
      rintro e w2 ⟨rfl, b2⟩
      have B2 := Lib.hid (t_chain B1.out b2)
      clear b2
      go_wp2
      go_ret
      exact ⟨by rw [V.out]; rfl, B2.out⟩
    | true =>
      have S1 := SA.out (by trivial)
      have S2 := SB.out (by trivial)
      have l1 := S1.lo
      have l2 := S1.hi
      have r1 := S1.rowLen
      have r2 := S2.rowLen
      have i1 := S1.inSq
      have i2 := S2.inSq
      rw [HN.out] at l1 l2 r1 i1
      rw [HM.out] at r2 i2
      by_cases k : n = m
      case neg =>
        have V := Lib.hid (VB.out (fun h => k h.2))
        have e1 : ((n : Int) != (m : Int)) = true := by simp; omega
        have e1' : (n != m) = true := by simp [k]
        clear VB VO SA SB S1 S2 r1 r2 i1 i2 k
        go_enter Try.func40, Try.ntmps40
        go_wp2_with fail
        refine HA.out.mono ?_
        rintro e w1 ⟨rfl, b1⟩
        have B1 := Lib.hid b1
        clear b1
        go_wp2_with fail
        refine (HU.out w1 B1.out).mono ?_
        rintro e w2 ⟨rfl, b2⟩
        have B2 := Lib.hid (t_chain B1.out b2)
        clear b2
        go_wp2
        go_ret
        exact ⟨by rw [V.out]; rfl, B2.out⟩
      subst k
      have V := Lib.hid (VO.out (by simp) rfl)
      have SP2 := Lib.hid (fun W (b : Below w.heap.size w W) => sOver n l1 l2 W _ _ xss yss (HV.out W b).1 (HV.out W b).2 HN.out HM.out r1 r2 i1 i2)
      have OI := Lib.hid (fun x y (hx : x < n) (hy : y < n) => over_in i1 i2 hx hy)
      have e1 : ((n : Int) != (n : Int)) = false := by simp
      have e1' : (n != n) = false := by simp
      obtain ⟨F, hF⟩ : ∃ F, overF n (cellF xss) (cellF yss) = F := ⟨_, rfl⟩
      simp only [hF] at SP2 OI V
      obtain ⟨G, hG⟩ : ∃ G, lineG n F = G := ⟨_, rfl⟩
      have GA : Hid (∀ x y, y < n → G (x * n + y) = F x y) := fun x y h => by rw [← hG]; exact lineG_at F h
      rw [hG] at V
      have nn : n * n ≤ 10 * 10 := Nat.mul_le_mul l2 l2
      have MB : Hid (∀ x y, x < n → y < n → x * n + y < n * n) := fun x y hx hy => by
        have : (x + 1) * n ≤ n * n := Nat.mul_le_mul_right n hx
        rw [Nat.succ_mul] at this; omega
      have MS : Hid (∀ x, (x + 1) * n + 0 = x * n + n) := fun x => by rw [Nat.succ_mul, Nat.add_zero]
      have ec : (n : Int) * (n : Int) = ((n * n : Nat) : Int) := (Int.natCast_mul n n).symm
      obtain ⟨q, hq⟩ : ∃ q, n * n = q := ⟨_, rfl⟩
      rw [hq] at nn ec V MB
      rw [ec] at OI
      have MQ : Hid (n * n = q) := hq
      have YES : Hid (Dist q G → distB q G = true) := fun h => distB_true h
      have NO : Hid (¬ Dist q G → distB q G = false) := fun h => distB_false h
      have wq0 := IntWalk.i64_in (q : Int) (by omega)
      have hmk := fun W : World => run_make_row' (P := Try.prog) 77 4 (.bool false) 1 Try.underlying77 Try.infoBoo rfl .i64 .i64 q (by omega) (by omega) W
      clear VB VO SA SB S1 S2 r1 r2 i1 i2 hF hG
      go_enter Try.func40, Try.ntmps40
      go_wp2_with fail
      refine HA.out.mono ?_
      rintro e w1 ⟨rfl, b1⟩
      have B1 := Lib.hid b1
      clear b1
      go_wp2_with fail
      refine (HU.out w1 B1.out).mono ?_
      rintro e w2 ⟨rfl, b2⟩
      have B2 := Lib.hid (t_chain B1.out b2)
      clear b2
      go_wp2_with fail
      refine (SP2.out w2 B2.out).mono ?_
      rintro e w3 ⟨r, rfl, r3, b3⟩
      have B3 := Lib.hid (t_chain B2.out b3)
      obtain ⟨oa, ok, rfl, LK⟩ := r3.at.look (gridL_length n n F) (fun x hx => by rw [gridL_getD F hx, rowf_length])
      have HLK := Lib.hid LK
      have mk := hmk w3
      have A4 := made_bz w3 4 q
      have b4 : Below w3.heap.size w3 (w3.alloc (.cells (madeCells #[.bool false] q) 4)) := (Below.refl _ _).alloc (Nat.le_refl _) _
      obtain ⟨w4, hw4⟩ : ∃ w4, w3.alloc (.cells (madeCells #[.bool false] q) 4) = w4 := ⟨_, rfl⟩
      rw [hw4] at mk A4 b4
      obtain ⟨s, hs⟩ : ∃ s, w3.heap.size = s := ⟨_, rfl⟩
      rw [hs] at mk A4 b4 HLK
      have hws : w.heap.size ≤ s := by rw [← hs]; exact B3.out.size
      have A5 : Hid (Ba w4 4 s q (seenP G (0 * n + 0))) := by unfold Hid; rw [Nat.zero_mul, seenP_zero]; exact A4
      have B4 : Hid (Below s w3 w4) := b4
      have D0 : Hid (Dist (0 * n + 0) G) := fun a b hab hb => by omega
      clear r3 b3 LK hmk A4 b4 hw4 hs hq
      go_wp2
      clear mk
      go_loopw [8] (fun i wr => ∃ x : Nat, x ≤ n ∧ i = .int .i64 x ∧ Hid (Ba wr 4 s q (seenP G (x * n + 0))) ∧ Hid (Dist (x * n + 0) G) ∧ Hid (Below s w3 wr)) (fun i _ => n - (intOf i).toNat)
      case atStart => exact ⟨0, by omega, rfl, A5, D0, B4⟩
      case round =>
        obtain ⟨x, hx, rfl, hS, hD, hBl⟩ := hrel
        by_cases c : x < n
        · have k1 : decide (x < n) = true := by simpa using c
          have k1' : decide ((x : Int) < (n : Int)) = true := decide_eq_true (by omega)
          have wx3 := IntWalk.i64_in ((x : Int) + 1) (by omega)
          have x0 : (0 : Int) ≤ (x : Int) := by omega
          have x1 : (x : Int) < (n : Int) := by omega
          obtain ⟨wq, rfl⟩ : ∃ wq : World, wq = wr := ⟨_, rfl⟩
          go_wp2
          go_loopw [9] (fun i wr => ∃ y : Nat, y ≤ n ∧ i = .int .i64 y ∧ Hid (Ba wr 4 s q (seenP G (x * n + y))) ∧ Hid (Dist (x * n + y) G) ∧ Hid (Below s w3 wr)) (fun i _ => n - (intOf i).toNat)
          case atStart => exact ⟨0, by omega, rfl, hS, hD, hBl⟩
          case round =>
            obtain ⟨y, hy, rfl, hS2, hD2, hBl2⟩ := hrel
            by_cases c2 : y < n
            · have k2 : decide (y < n) = true := by simpa using c2
              have k2' : decide ((y : Int) < (n : Int)) = true := decide_eq_true (by omega)
              have wy4 := IntWalk.i64_in ((y : Int) + 1) (by omega)
              have y0 : (0 : Int) ≤ (y : Int) := by omega
              have y1 : (y : Int) < (n : Int) := by omega
              have oi := OI.out x y c c2
              have ga := GA.out x y c2
              obtain ⟨g, off, g2, off2, cc, rfl, m1, m2⟩ := HLK.out wr hBl2.out x y c c2
              rw [cellF_grid F c c2] at m2
              obtain ⟨z, hz⟩ : ∃ z, F x y = z := ⟨_, rfl⟩
              rw [hz] at oi ga m2
              obtain ⟨t, rfl⟩ : ∃ t : Nat, z = t := ⟨z.toNat, by omega⟩
              have t0 : (0 : Int) ≤ (t : Int) := by omega
              have t1 : (t : Int) < (q : Int) := oi.2
              have tq : t < q := by omega
              have ct := hS2.out.cell t tq
              have fz := hS2.out.frozen t
              have mb := MB.out x y c c2
              clear hz oi
              obtain ⟨b, hb⟩ : ∃ b, seenP G (x * n + y) t = b := ⟨_, rfl⟩
              rw [hb] at ct
              cases b with
              | true =>
                have V2 := Lib.hid (NO.out (not_dist mb ga hb))
                clear hb ga mb
                go_wp2
                go_ret
                exact ⟨by rw [V.out, V2.out]; rfl, B3.out.trans (hBl2.out.mono hws)⟩
              | false =>
                have S5 : Hid (Ba (wr.setCell ⟨s, t, none⟩ (.bool true)) 4 s q (seenP G (x * n + (y + 1)))) := by
                  have := hS2.out.set t true
                  rwa [seenP_succ ga] at this
                have D5 : Hid (Dist (x * n + (y + 1)) G) := dist_succ hD2.out ga hb
                have B5 : Hid (Below s w3 (wr.setCell ⟨s, t, none⟩ (.bool true))) := hBl2.out.setCell (p := ⟨s, t, none⟩) (Nat.le_refl _) _
                clear hb ga mb
                go_wp2
                go_roundw
                case rel => exact ⟨y + 1, by omega, by go_num, S5, D5, B5⟩
                case measure => simp [intOf]; omega
            · have k2 : decide (y < n) = false := by simpa using c2
              have k2' : decide ((y : Int) < (n : Int)) = false := decide_eq_false (by omega)
              obtain rfl : y = n := by omega
              go_wp2
              go_roundw
              case rel => exact ⟨x + 1, by omega, by go_num, by unfold Hid; rw [MS.out]; exact hS2.out, by unfold Hid; rw [MS.out]; exact hD2.out, hBl2⟩
              case measure => simp [intOf]; omega
        · have k1 : decide (x < n) = false := by simpa using c
          have k1' : decide ((x : Int) < (n : Int)) = false := decide_eq_false (by omega)
          obtain rfl : x = n := by omega
          have V2 : Hid (distB q G = true) := YES.out (by have := hD.out; rwa [Nat.add_zero, MQ.out] at this)
          go_wp2
          go_ret
          exact ⟨by rw [V.out, V2.out]; rfl, B3.out.trans (hBl.out.mono hws)⟩

set_option maxHeartbeats 1000000 in
theorem sOrthogonal (xss yss : List (List Int)) (hx : SmallLL xss) (hy : SmallLL yss) (w : World) (v u : Value) (hv : RowsAt w v xss) (hu : RowsAt w u yss) :
    Calls Try.prog 12 #[v, u] w fun e w' => e = .returned (.bool (Orthogonal_0 xss yss)) ∧ Below w.heap.size w w' := by
  have H := Lib.hid (sOrtho xss yss w v u hv hu)
  obtain ⟨z, hz⟩ : ∃ z, Orthogonal_0 xss yss = z := ⟨_, rfl⟩
  rw [hz] at H ⊢
  clear hv hu hx hy hz
  go_enter Try.func12, Try.ntmps12
  go_wp2_with fail
  refine H.out.mono ?_
  rintro e w1 ⟨rfl, b1⟩
  have B1 := Lib.hid b1
  clear b1
  go_wp2
  go_ret
  exact ⟨rfl, B1.out⟩
end Go.Proofs.Ytkonddifmonkcaa
