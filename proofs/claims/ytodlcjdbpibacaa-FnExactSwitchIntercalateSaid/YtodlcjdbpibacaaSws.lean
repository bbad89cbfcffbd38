/- SwitchIntercalate: the model. -/
import Derived.Test.YtodlcjdbpibacaaSwn
import Derived.Test.YtodlcjdbpibacaaOw6
import Derived.Test.YtodlcjdbpibacaaRowc
namespace Go.Proofs.Ytodlcjdbpibacaa
open Go.RowKit Go.Shelf
set_option linter.unusedVariables false

set_option maxRecDepth 100000 in
set_option maxHeartbeats 4000000 in
/-- The model's test of a list of any length. -/
theorem sIclL (W : World) (v u : Value) (xss : List (List Int)) (ys : List Int) (hp : IsSq xss) (hv : RowsAt W v xss) (hu : OwnI W u ys) :
    Calls Try.prog 16 #[v, u] W fun e w' => e = .returned (.bool (swB xss.length (cellF xss) ys)) ∧ Below W.heap.size W w' := by
  obtain ⟨a, cap, rfl, hl, K⟩ := hu.shape
  by_cases h : ys.length = 4
  · rw [swB_four h]
    obtain ⟨g, rfl, c4, -, K⟩ := K h
    have K := K W (Below.refl _ _)
    rw [h]
    exact sIcl W v xss hp hv g 0 cap _ _ _ _ c4 (K 0 (by omega)) (K 1 (by omega)) (K 2 (by omega)) (K 3 (by omega))
  · have V := Lib.hid (swB_not (n := xss.length) (F := cellF xss) h)
    obtain ⟨va, vk, rfl, -, -⟩ := hv.cellsOf
    have hml := hv.1
    obtain ⟨m, hm⟩ : ∃ m, ys.length = m := ⟨_, rfl⟩
    obtain ⟨z, hz⟩ : ∃ z, swB xss.length (cellF xss) ys = z := ⟨_, rfl⟩
    obtain ⟨n, hn⟩ : ∃ n, xss.length = n := ⟨_, rfl⟩
    rw [hz] at V ⊢
    rw [hm] at h hl ⊢
    rw [hn] at hml ⊢
    have t1 : ((m : Int) != 4) = true := by simp; omega
    have t1' : (m != 4) = true := by simp; omega
    clear hv hu hp K hm hz hn
    go_enter Try.func16, Try.ntmps16
    go_wp2
    go_ret
    exact ⟨by rw [V.out]; rfl, by first | exact Below.refl _ _ | exact Go.below_drewN (Below.refl _ _) _ | exact Go.below_drewN (Go.below_drewN (Below.refl _ _) _) _⟩

set_option maxRecDepth 100000 in
set_option maxHeartbeats 8000000 in
theorem sSwitchIntercalate (xss : List (List Int)) (ys : List Int) (hx : SmallLL xss) (hy : SmallL ys) (W : World) (v u : Value) (hv : RowsAt W v xss) (hu : OwnI W u ys) :
    Calls Try.prog 5 #[v, u] W fun e w' => ∃ r, e = .returned (.tuple #[r, .int .i64 (SwitchIntercalate_1 xss ys)]) ∧ RowsAt w' r (SwitchIntercalate_0 xss ys) ∧ Below W.heap.size W w' := by
  have HS := Lib.hid (sSq W v xss hv)
  have HV := Lib.hid (fun W' (h : Below W.heap.size W W') => hv.below h (Nat.le_refl _))
  have HU := Lib.hid (fun W' (h : Below W.heap.size W W') => (show OwnI W' u ys from hu.imp fun B k => k.below h (Nat.le_refl _)))
  cases hp : sqB xss with
  | false =>
    have V := Lib.hid (Sw_no (ys := ys) hp)
    rw [hp] at HS
    clear hp hv hu hx hy HV HU
    go_enter Try.func5, Try.ntmps5
    go_wp2_with fail
    refine HS.out.mono ?_
    rintro e w1 ⟨rfl, b1⟩
    have B1 := Lib.hid b1
    clear b1
    go_wp2
    go_ret2
    exact ⟨_, by rw [V.out.2]; rfl, by rw [V.out.1]; exact RowsAt.nil _ _ _, B1.out⟩
  | true =>
    have S := of_sqB hp
    have HI := Lib.hid (fun W' (h : Below W.heap.size W W') => sIclL W' v u xss ys S (HV.out W' h) (HU.out W' h))
    rw [hp] at HS
    cases hq : swB xss.length (cellF xss) ys with
    | false =>
      have V := Lib.hid (Sw_bad hp hq)
      simp only [hq] at HI
      clear hp hv hu hx hy HV HU hq S
      go_enter Try.func5, Try.ntmps5
      go_wp2_with fail
      refine HS.out.mono ?_
      rintro e w1 ⟨rfl, b1⟩
      have B1 := Lib.hid b1
      clear b1
      go_wp2_with fail
      refine (HI.out _ B1.out).mono ?_
      rintro e w2 ⟨rfl, b2⟩
      have B2 := Lib.hid (t_chain B1.out b2)
      clear b2
      go_wp2
      go_ret2
      exact ⟨_, by rw [V.out.2]; rfl, by rw [V.out.1]; exact RowsAt.nil _ _ _, B2.out⟩
    | true =>
      have V := Lib.hid (Sw_ok hp hq)
      simp only [hq] at HI
      have h4 : ys.length = 4 := by
        by_cases h : ys.length = 4
        · exact h
        · rw [swB_not h] at hq; cases hq
      rw [swB_four h4] at hq
      obtain ⟨r, s, c, d, e0, e1, e2, e3, rs, sn, cd, dn⟩ := icB_nums hq
      have nhi := S.hi
      have nlo := S.lo
      have SR := S.rowLen
      have SG := gridL_cellF S.rowLen
      obtain ⟨a, cap, rfl, -, KU⟩ := hu.shape
      obtain ⟨g, rfl, c4, c5, KU⟩ := KU h4
      have KV : Hid (∀ W', Below W.heap.size W W' → ∀ k, 2 ≤ k → k < 4 → W'.cell? ⟨g, k, none⟩ = some (.int .i64 ((if k = 2 then c else d : Nat) : Int))) := fun W' hb k hk1 hk => by
        match k, hk1, hk with
        | 2, _, _ => rw [if_pos rfl, ← e2]; exact KU W' hb 2 (by omega)
        | 3, _, _ => rw [if_neg (by decide), ← e3]; exact KU W' hb 3 (by omega)
      have K0 : Hid (∀ W', Below W.heap.size W W' → W'.cell? ⟨g, 0, none⟩ = some (.int .i64 (r : Int)) ∧ W'.cell? ⟨g, 1, none⟩ = some (.int .i64 (s : Int))) := fun W' hb => by
        rw [← e0, ← e1]; exact ⟨KU W' hb 0 (by omega), KU W' hb 1 (by omega)⟩
      have VL : Hid (swL xss ys = gridL xss.length xss.length (swG (cellF xss) r s c d)) := by
        unfold Hid swL; rw [e0, e1, e2, e3]; rfl
      obtain ⟨n, hn⟩ : ∃ n, xss.length = n := ⟨_, rfl⟩
      rw [hn] at nhi nlo SR SG VL sn dn
      have HO := Lib.hid (fun W' (h : Below W.heap.size W W') => sOwn6 W' v xss n hn nhi SR (HV.out W' h))
      obtain ⟨gv, off, vk, rfl, KA⟩ := hv.look2 hn SR nlo
      have HK := Lib.hid KA
      obtain ⟨F, hF⟩ : ∃ F, cellF xss = F := ⟨_, rfl⟩
      rw [hF] at HK SG VL
      have HG := Lib.hid SG
      have hml := h4
      rw [h4] at *
      have SK : Hid (∀ k, 2 ≤ k → k < 4 → swK F r s c d (k + 1 - 2) = sw1 F (swK F r s c d (k - 2)) r s (if k = 2 then c else d)) := fun k hk1 hk => by
        match k, hk1, hk with
        | 2, _, _ => rfl
        | 3, _, _ => rfl
      have CN : Hid (∀ k, (if k = 2 then c else d : Nat) < n) := fun k => by split <;> omega
      have rn : r < n := by omega
      clear hp hv hu hx hy HV HU hq S SR SG e0 e1 e2 e3 KU KA hF hn h4 hml cd
      go_enter Try.func5, Try.ntmps5
      go_wp2_with fail
      refine HS.out.mono ?_
      rintro e w1 ⟨rfl, b1⟩
      have B1 := Lib.hid b1
      clear b1
      go_wp2_with fail
      refine (HI.out _ B1.out).mono ?_
      rintro e w2 ⟨rfl, b2⟩
      have B2 := Lib.hid (t_chain B1.out b2)
      clear b2
      go_wp2_with fail
      refine (HO.out _ B2.out).mono ?_
      rintro e w3 ⟨o, rfl, r3, b3⟩
      rw [← HG.out] at r3
      have s3 := b3.size
      have R3 : Hid (RowsL w3 w2.heap.size w3.heap.size o (gridL n n (swK F r s c d 0))) := r3
      have B3 := Lib.hid (t_chain B2.out b3)
      have z2 : W.heap.size ≤ w2.heap.size := B2.out.size
      obtain ⟨q0, q1⟩ := K0.out w3 B3.out
      obtain ⟨B, hB⟩ : ∃ B, w2.heap.size = B := ⟨_, rfl⟩
      obtain ⟨L, hL⟩ : ∃ L, w3.heap.size = L := ⟨_, rfl⟩
      rw [hB, hL] at R3
      rw [hB] at z2
      clear r3 b3 HS HI HO s3 hB hL
      go_wp2
      go_loopw [9] (fun k wr => ∃ j : Nat, 2 ≤ j ∧ j ≤ 4 ∧ k = .int .i64 (j : Int) ∧ Hid (RowsL wr B L o (gridL n n (swK F r s c d (j - 2)))) ∧ Hid (Below W.heap.size W wr)) (fun k _ => 4 - (intOf k).toNat)
      case atStart => exact ⟨2, by omega, by omega, rfl, R3, B3⟩
      case round =>
        obtain ⟨j, hj1, hj, rfl, hR, hM⟩ := hrel
        by_cases c1 : j < 4
        · have k1 : decide ((j : Int) < 4) = true := decide_eq_true (by omega)
          have k2 : (0 : Int) ≤ (j : Int) := by omega
          have k3 : (j : Int) < 4 := by omega
          have wr1 := IntWalk.i64_in ((j : Int) + 1) (by omega)
          obtain ⟨wd, hwd⟩ : ∃ wd, wr.drew = wd := ⟨_, rfl⟩
          have MD : Below W.heap.size W wd := by rw [← hwd]; exact (show Below W.heap.size W wr from hM.out).drew
          have RD : RowsL wd B L o (gridL n n (swK F r s c d (j - 2))) := by rw [← hwd]; exact hR.out.drewN 1
          have q2 := KV.out wd MD j hj1 c1
          have yn := CN.out j
          have sk := Lib.hid (SK.out j hj1 c1)
          obtain ⟨y, hy⟩ : ∃ y : Nat, (if j = 2 then c else d) = y := ⟨_, rfl⟩
          rw [hy] at q2 yn sk
          obtain ⟨g2, o2, k6, m2, m2'⟩ := HK.out wd MD s sn
          have p2 := m2' y yn
          obtain ⟨G, hG⟩ : ∃ G, swK F r s c d (j - 2) = G := ⟨_, rfl⟩
          rw [hG] at RD sk
          obtain ⟨t0, tc, ga, ca, et, ta, tb, tf, tl, tu, hp⟩ := gridSet RD rn yn
          subst et
          have hga : W.heap.size ≤ ga := by omega
          have R4 := (hp (F s y)).drewN 1
          have M4 := (MD.setCell (p := ⟨ga, y, none⟩) hga (.int .i64 (F s y))).drew
          obtain ⟨we, hwe⟩ : ∃ we, (wd.setCell ⟨ga, y, none⟩ (.int .i64 (F s y))).drew = we := ⟨_, rfl⟩
          rw [show (wd.setCell ⟨ga, y, none⟩ (.int .i64 (F s y))).drewN 1 = we from hwe] at R4
          rw [hwe] at M4
          obtain ⟨t0', tc', gb, cb, et, ua, ub, uf, ul, uu, hp2⟩ := gridSet R4 sn yn
          injection et with et1 et2 et3
          injection et1 with et1
          injection et1 with et1 _
          subst et1 et3
          have hgb : W.heap.size ≤ gb := by omega
          have R5 : Hid (RowsL (we.setCell ⟨gb, y, none⟩ (.int .i64 (F r y))) B L (.slice (some ⟨t0, 0, none⟩) n tc) (gridL n n (swK F r s c d (j + 1 - 2)))) := by
            have := hp2 (F r y)
            unfold Hid
            rw [sk.out]
            exact this
          have M5 : Hid (Below W.heap.size W (we.setCell ⟨gb, y, none⟩ (.int .i64 (F r y)))) := M4.setCell (p := ⟨gb, y, none⟩) hgb _
          have n1 := KV.out _ M4 j hj1 c1
          rw [hy] at n1
          obtain ⟨g3, o3, k7, x1, x1'⟩ := HK.out _ M4 r rn
          have p3 := x1' y yn
          obtain ⟨fs, hfs⟩ : ∃ z, F s y = z := ⟨_, rfl⟩
          obtain ⟨fr, hfr⟩ : ∃ z, F r y = z := ⟨_, rfl⟩
          simp only [hfs, hfr] at p2 p3 R5 M5 hwe
          have y0 : (0 : Int) ≤ (y : Int) := by omega
          have y1 : (y : Int) < (n : Int) := by omega
          have r0 : (0 : Int) ≤ (r : Int) := by omega
          have r1 : (r : Int) < (n : Int) := by omega
          have s0 : (0 : Int) ≤ (s : Int) := by omega
          have s1 : (s : Int) < (n : Int) := by omega
          have HM5 := M5
          have HE := Lib.hid hwe
          clear m2' x1' hp hp2 R4 hG hy hfs hfr MD RD M4 M5 yn hwe
          have T1 := Lib.hid ua
          have T2 := Lib.hid uf
          have T3 := Lib.hid ub
          have T4 := Lib.hid n1
          have T5 := Lib.hid x1
          have T6 := Lib.hid p3
          clear ua uf ub n1 x1 p3
          go_upto_region 11 with fail
          refine wp_region_still_tail 19 (by kernel_rfl) (by kernel_rfl) ?_
          simp only [List.take_succ_cons, List.take_zero, List.drop_succ_cons, List.drop_zero]
          change wpStill _ _ wr.drew _ _ _
          rw [hwd]
          repeat still_step
          refine wpStill_nil ?_
          change wpList _ _ _ _ _ wr.drew
          rw [hwd]
          clear hwd
          go_upto_region 12 with fail
          have ua := T1.out
          have uf := T2.out
          have ub := T3.out
          have n1 := T4.out
          have x1 := T5.out
          have p3 := T6.out
          clear T1 T2 T3 T4 T5 T6 ta tb tf q2 m2 p2
          have hwe := HE.out
          refine wp_region_still_tail 19 (by kernel_rfl) (by kernel_rfl) ?_
          simp only [List.take_succ_cons, List.take_zero, List.drop_succ_cons, List.drop_zero]
          change wpStill _ _ (wd.setCell ⟨ga, y, none⟩ (.int .i64 fs)).drew _ _ _
          rw [hwe]
          repeat still_step
          refine wpStill_nil ?_
          change wpList _ _ _ _ _ (wd.setCell ⟨ga, y, none⟩ (.int .i64 fs)).drew
          rw [hwe]
          clear hwe
          go_wp2
          go_roundw
          case rel => exact ⟨j + 1, by omega, by omega, by go_num, R5, HM5⟩
          case measure => simp [intOf]; omega
        · have k1 : decide ((j : Int) < 4) = false := decide_eq_false (by omega)
          obtain rfl : j = 4 := by omega
          have R9 : Hid (RowsAt wr o (swL xss ys)) := by unfold Hid; rw [VL.out]; exact hR.out.at
          go_wp2
          go_ret2
          exact ⟨_, by rw [V.out.2]; rfl, by rw [V.out.1]; exact R9.out, hM.out⟩
end Go.Proofs.Ytodlcjdbpibacaa
