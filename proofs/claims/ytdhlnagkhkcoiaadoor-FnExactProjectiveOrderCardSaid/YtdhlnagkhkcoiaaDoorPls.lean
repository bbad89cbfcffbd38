/- Orders of planes: the model's. -/
import Derived.Test.YtdhlnagkhkcoiaaDoorPlo
import Derived.Test.YtdhlnagkhkcoiaaDoorDok
namespace Go.Proofs.YtdhlnagkhkcoiaaDoor
open Go.RowKit Go.Shelf
set_option linter.unusedVariables false
set_option linter.unusedSimpArgs false

theorem rises_ge {hi : Int} {xs : List Int} (h : Rises 0 hi xs) : ∀ i, i < xs.length → (i : Int) ≤ xs.getD i 0
  | 0, hi => (h 0 hi).1
  | i + 1, hi => by
    have h1 := rises_ge h i (by omega)
    have h2 := (h (i + 1) hi).2.2 (by omega)
    rw [Nat.add_sub_cancel] at h2
    omega
theorem rises_length {n : Int} {xs : List Int} (h : Rises 0 (n - 1) xs) (hn : 0 ≤ n) : (xs.length : Int) ≤ n := by
  by_cases c : 0 < xs.length
  · have h1 := rises_ge h (xs.length - 1) (by omega)
    have h2 := (h (xs.length - 1) (by omega)).2.1
    omega
  · omega
theorem kz_le {n : Int} {xss : List (List Int)} {z : Nat} (D : Des n xss) (hb : dPar n xss = true) (hz : kzI xss = z) : 2 ≤ z ∧ z ≤ 32 := by
  unfold dPar parO at hb
  simp only [Bool.and_eq_true, decide_eq_true_eq] at hb
  obtain ⟨-, m0, k2, -⟩ := hb
  have n32 := D.2.1
  have e2 : kzI xss = (((xss.getD 0 []).length : Nat) : Int) := stL_getD _ _ _ m0
  refine ⟨by unfold kzI at hz; omega, ?_⟩
  have := rises_length (D.2.2.2 0 m0).1.2 (by have := D.1; omega)
  omega

set_option maxRecDepth 100000 in
set_option maxHeartbeats 4000000 in
theorem s12Affine (n : Int) (xss : List (List Int)) (w : World) (v : Value) (g : Nat) (c0 : w.cell? ⟨g, 0, none⟩ = some (.int .i64 n)) (c1 : w.cell? ⟨g, 1, none⟩ = some v) (hv : RowsAt w v xss) :
    Calls Tryd.prog 30 #[.pointer (some ⟨g, 0, none⟩)] w fun e w' => e = .returned (.int .i64 (AffineOrder_0 n xss)) ∧ Below w.heap.size w w' := by
  have HO := Lib.hid (sOk n xss w v g c0 c1 hv)
  have lg : g < w.heap.size := World.block_lt_of_cell? w _ c0
  obtain ⟨B, hB⟩ : ∃ B, w.heap.size = B := ⟨_, rfl⟩
  have HB := Lib.hid hB
  have RF : Hid (∀ d, Below B w (w.drewN d)) := fun d => below_drewN (Below.refl _ _) d
  have BA : Hid (∀ W cs T, Below B w W → Below B w (W.alloc (.cells cs T))) := fun W cs T h => h.alloc (by have := h.size; omega) _
  cases hp : desB n xss with
  | false =>
    have V := Lib.hid ((aff_no hp).1)
    rw [hp] at HO
    clear hp hv c0 c1
    go_enter Tryd.func30, Tryd.ntmps30
    go_wp2_with fail
    refine HO.out.mono ?_
    rintro e w3 ⟨rfl, d, rfl⟩
    go_wp2
    go_ret
    exact ⟨by rw [V.out]; rfl, by rw [HB.out]; exact RF.out d⟩
  | true =>
    have D := of_desB hp
    obtain ⟨N, rfl⟩ : ∃ N : Nat, n = N := ⟨n.toNat, by have := D.1; omega⟩
    have n1 := D.1
    have n32 := D.2.1
    obtain ⟨z, hz⟩ := kz_nat xss
    obtain ⟨m, hm⟩ : ∃ m, xss.length = m := ⟨_, rfl⟩
    have HR := Lib.hid (fun d => sParams N (by omega) (by omega) xss D.2.2.1 (fun i hi => (D.2.2.2 i hi).1) (w.drewN d) v g c0 c1 (hv.drewN d))
    have VN1 : Hid (dPar N xss = false → AffineOrder_0 N xss = 0) := fun h => (aff_nobal h).1
    have VN2 : Hid (pzI N xss ≠ 1 → AffineOrder_0 N xss = 0) := fun h => (aff_nolam h).1
    have VA := Lib.hid (fun h1 h2 h3 h4 => (aff_yes (n := N) (xss := xss) (z := z) hp h1 h2 hz h3 h4).1)
    have VP := Lib.hid (fun h1 h2 h3 h4 => (prj_yes (n := N) (xss := xss) (z := z) hp h1 h2 hz h3 h4).1)
    have VO := Lib.hid (fun h1 h2 => (aff_other (n := N) (xss := xss) (z := z) hz h1 h2).1)
    have KZ := Lib.hid (fun h => kz_le D h hz)
    have VV : Hid (dPar N xss = true → ∃ rz, parV N xss.length (lens xss) (prA N (prF xss.length (memP xss)) N) (repL N xss.length (memP xss)) = prm N m rz z (pzI N xss)) := fun h => ⟨(repL N m (memP xss)).getD 0 0, by
      unfold dPar at h
      rw [Int.toNat_natCast] at h
      unfold parV
      rw [if_pos h]
      unfold kzI at hz
      rw [hz, hm]
      unfold pzI
      rw [Int.toNat_natCast, hm]⟩
    obtain ⟨va, vb, vc, vd, ve, hform⟩ := prm_form N xss.length (lens xss) (prA N (prF xss.length (memP xss)) N) (repL N xss.length (memP xss))
    have hdp : parO N xss.length (lens xss) (prA N (prF xss.length (memP xss)) N) = dPar N xss := by unfold dPar; rw [Int.toNat_natCast]
    simp only [hform, hdp, prm] at HR VV
    have VZ : Hid (dPar N xss = false → prm va vb vc vd ve = prm 0 0 0 0 0) := fun h => by
      rw [← hdp] at h
      rw [← hform]; exact parV_no h
    obtain ⟨o, ho⟩ : ∃ o, dPar N xss = o := ⟨_, rfl⟩
    obtain ⟨p, hpz⟩ : ∃ p, pzI N xss = p := ⟨_, rfl⟩
    simp only [ho] at HR VV VN1 VA VP KZ VZ
    simp only [hpz] at VV VN2 VA VP
    rw [hp] at HO
    clear hp hv c0 c1 D hform hdp ho hpz hz hm
    go_enter Tryd.func30, Tryd.ntmps30
    go_wp2_with fail
    refine HO.out.mono ?_
    rintro e w3 ⟨rfl, d, rfl⟩
    go_wp2_with fail
    refine (HR.out d).mono ?_
    rintro e w4 ⟨rfl, b4⟩
    have B4 : Below B w w4 := (RF.out d).trans (b4.mono (by show B ≤ w.heap.size; omega))
    obtain ⟨J, hJ⟩ : ∃ J, w4.heap.size = J := ⟨_, rfl⟩
    obtain ⟨w5, hw5⟩ : ∃ w5, w4.alloc (.cells #[.int .i64 va, .int .i64 vb, .int .i64 vc, .int .i64 vd, .int .i64 ve] 83) = w5 := ⟨_, rfl⟩
    have B5 : Hid (Below B w w5) := by rw [← hw5]; exact BA.out _ _ _ B4
    have D5 : w5.heap[J]? = some (.cells #[.int .i64 va, .int .i64 vb, .int .i64 vc, .int .i64 vd, .int .i64 ve] 83 (0, 0)) := by rw [← hw5, ← hJ]; exact heap_alloc_new _ _
    obtain ⟨y0, y1, y2, y3, y4, -, -, -, -, -⟩ := cells5 w5 J _ _ _ _ _ _ D5
    clear b4 B4 D5 lg hB
    cases o with
    | false =>
      have V := Lib.hid (VN1.out rfl)
      have hprm := VZ.out rfl
      simp only [prm, Value.agg.injEq, Array.mk.injEq, List.cons.injEq, Value.int.injEq, true_and, and_true] at hprm
      have v9 : IntKind.i64.wrap (vd - 1) = -1 := by rw [hprm.2.2.2.1]; decide
      clear hprm
      go_wp2
      try rw [hw5]
      go_ret
      exact ⟨by rw [V.out]; rfl, by rw [HB.out]; exact B5.out⟩
    | true =>
      obtain ⟨z2, z32⟩ := KZ.out rfl
      obtain ⟨rz, hprm⟩ := VV.out rfl
      simp only [prm, Value.agg.injEq, Array.mk.injEq, List.cons.injEq, Value.int.injEq, true_and, and_true] at hprm
      obtain ⟨rfl, -, -, rfl, rfl⟩ := hprm
      have sq : z * z ≤ 32 * 32 := Nat.mul_le_mul z32 z32
      have sqI : (z : Int) * (z : Int) = ((z * z : Nat) : Int) := by rw [Int.natCast_mul]
      obtain ⟨y, hy⟩ : ∃ y : Nat, z = y + 1 := ⟨z - 1, by omega⟩
      have e1 : (z : Int) - 1 = (y : Int) := by omega
      have sy : y * y ≤ 32 * 32 := Nat.mul_le_mul (by omega) (by omega)
      have syI : (y : Int) * (y : Int) = ((y * y : Nat) : Int) := by rw [Int.natCast_mul]
      have v1 := IntWalk.i64_in ((z : Int) * (z : Int)) (by omega)
      by_cases q1 : ve = 1
      · subst q1
        by_cases qa : (N : Int) = (z : Int) * z
        · have t1 : ((N : Int) != (z : Int) * (z : Int)) = false := by simpa using qa
          have V := Lib.hid (VA.out rfl rfl z2 qa)
          clear qa e1 hy sq sqI sy syI
          go_wp2
          try rw [hw5]
          go_ret
          exact ⟨by rw [V.out]; rfl, by rw [HB.out]; exact B5.out⟩
        · have t1 : ((N : Int) != (z : Int) * (z : Int)) = true := by simpa using qa
          have V : Hid (AffineOrder_0 N xss = 0) := by
            by_cases qb : 3 ≤ z ∧ (N : Int) = ((z : Int) - 1) * ((z : Int) - 1) + z
            · exact VP.out rfl rfl qb.1 qb.2
            · exact VO.out qa qb
          clear e1 hy sq sqI sy syI
          replace qa := Lib.hid qa
          go_wp2
          try rw [hw5]
          go_ret
          exact ⟨by rw [V.out]; rfl, by rw [HB.out]; exact B5.out⟩
      · have t1 : (ve != 1) = true := by simpa using q1
        have V := Lib.hid (VN2.out q1)
        replace q1 := Lib.hid q1
        clear e1 hy sq sqI sy syI
        go_wp2
        try rw [hw5]
        go_ret
        exact ⟨by rw [V.out]; rfl, by rw [HB.out]; exact B5.out⟩

set_option maxRecDepth 100000 in
set_option maxHeartbeats 4000000 in
theorem sAffineOrder (n : Int) (xss : List (List Int)) (w : World) (v : Value) (hv : RowsAt w v xss) :
    Calls Tryd.prog 9 #[.agg #[.int .i64 n, v]] w fun e w' => e = .returned (.int .i64 (AffineOrder_0 n xss)) ∧ Below w.heap.size w w' := by
  obtain ⟨va, cap, rfl, -⟩ := hv.shape
  obtain ⟨m, hm⟩ : ∃ m, xss.length = m := ⟨_, rfl⟩
  rw [hm] at hv ⊢
  obtain ⟨B, hB⟩ : ∃ B, w.heap.size = B := ⟨_, rfl⟩
  obtain ⟨w1, hw1⟩ : ∃ w1, w.alloc (.cells #[.int .i64 n, .slice va m cap] 27) = w1 := ⟨_, rfl⟩
  have z1 : w1.heap.size = B + 1 := by rw [← hw1, World.size_alloc, hB]
  have b1 : Below B w w1 := by rw [← hw1]; exact (Below.refl _ _).alloc (by omega) _
  have A1 : w1.heap[B]? = some (.cells #[.int .i64 n, .slice va m cap] 27 (0, 0)) := by rw [← hw1, ← hB]; exact heap_alloc_new _ _
  obtain ⟨c0, c1⟩ := cells2A w1 B _ _ _ A1
  have HO := Lib.hid (s12Affine n xss w1 _ B c0 c1 (hv.below b1 (by omega)))
  have B1 := Lib.hid b1
  have Z1 := Lib.hid z1
  have HB := Lib.hid hB
  clear hv A1 b1 z1 c0 c1
  go_enter Tryd.func9, Tryd.ntmps9
  go_wp2_with fail
  try rw [hw1]
  try rw [hB]
  refine HO.out.mono ?_
  rintro e w3 ⟨rfl, b3⟩
  have B3 : Hid (Below B w w3) := B1.out.trans (b3.mono (by have := Z1.out; omega))
  clear b3
  go_wp2
  go_ret
  exact ⟨rfl, by rw [HB.out]; exact B3.out⟩

set_option maxRecDepth 100000 in
set_option maxHeartbeats 4000000 in
theorem s12Projective (n : Int) (xss : List (List Int)) (w : World) (v : Value) (g : Nat) (c0 : w.cell? ⟨g, 0, none⟩ = some (.int .i64 n)) (c1 : w.cell? ⟨g, 1, none⟩ = some v) (hv : RowsAt w v xss) :
    Calls Tryd.prog 33 #[.pointer (some ⟨g, 0, none⟩)] w fun e w' => e = .returned (.int .i64 (ProjectiveOrder_0 n xss)) ∧ Below w.heap.size w w' := by
  have HO := Lib.hid (sOk n xss w v g c0 c1 hv)
  have lg : g < w.heap.size := World.block_lt_of_cell? w _ c0
  obtain ⟨B, hB⟩ : ∃ B, w.heap.size = B := ⟨_, rfl⟩
  have HB := Lib.hid hB
  have RF : Hid (∀ d, Below B w (w.drewN d)) := fun d => below_drewN (Below.refl _ _) d
  have BA : Hid (∀ W cs T, Below B w W → Below B w (W.alloc (.cells cs T))) := fun W cs T h => h.alloc (by have := h.size; omega) _
  cases hp : desB n xss with
  | false =>
    have V := Lib.hid ((aff_no hp).2)
    rw [hp] at HO
    clear hp hv c0 c1
    go_enter Tryd.func33, Tryd.ntmps33
    go_wp2_with fail
    refine HO.out.mono ?_
    rintro e w3 ⟨rfl, d, rfl⟩
    go_wp2
    go_ret
    exact ⟨by rw [V.out]; rfl, by rw [HB.out]; exact RF.out d⟩
  | true =>
    have D := of_desB hp
    obtain ⟨N, rfl⟩ : ∃ N : Nat, n = N := ⟨n.toNat, by have := D.1; omega⟩
    have n1 := D.1
    have n32 := D.2.1
    obtain ⟨z, hz⟩ := kz_nat xss
    obtain ⟨m, hm⟩ : ∃ m, xss.length = m := ⟨_, rfl⟩
    have HR := Lib.hid (fun d => sParams N (by omega) (by omega) xss D.2.2.1 (fun i hi => (D.2.2.2 i hi).1) (w.drewN d) v g c0 c1 (hv.drewN d))
    have VN1 : Hid (dPar N xss = false → ProjectiveOrder_0 N xss = 0) := fun h => (aff_nobal h).2
    have VN2 : Hid (pzI N xss ≠ 1 → ProjectiveOrder_0 N xss = 0) := fun h => (aff_nolam h).2
    have VA := Lib.hid (fun h1 h2 h3 h4 => (aff_yes (n := N) (xss := xss) (z := z) hp h1 h2 hz h3 h4).2)
    have VP := Lib.hid (fun h1 h2 h3 h4 => (prj_yes (n := N) (xss := xss) (z := z) hp h1 h2 hz h3 h4).2)
    have VO := Lib.hid (fun h1 h2 => (aff_other (n := N) (xss := xss) (z := z) hz h1 h2).2)
    have KZ := Lib.hid (fun h => kz_le D h hz)
    have VV : Hid (dPar N xss = true → ∃ rz, parV N xss.length (lens xss) (prA N (prF xss.length (memP xss)) N) (repL N xss.length (memP xss)) = prm N m rz z (pzI N xss)) := fun h => ⟨(repL N m (memP xss)).getD 0 0, by
      unfold dPar at h
      rw [Int.toNat_natCast] at h
      unfold parV
      rw [if_pos h]
      unfold kzI at hz
      rw [hz, hm]
      unfold pzI
      rw [Int.toNat_natCast, hm]⟩
    obtain ⟨va, vb, vc, vd, ve, hform⟩ := prm_form N xss.length (lens xss) (prA N (prF xss.length (memP xss)) N) (repL N xss.length (memP xss))
    have hdp : parO N xss.length (lens xss) (prA N (prF xss.length (memP xss)) N) = dPar N xss := by unfold dPar; rw [Int.toNat_natCast]
    simp only [hform, hdp, prm] at HR VV
    have VZ : Hid (dPar N xss = false → prm va vb vc vd ve = prm 0 0 0 0 0) := fun h => by
      rw [← hdp] at h
      rw [← hform]; exact parV_no h
    obtain ⟨o, ho⟩ : ∃ o, dPar N xss = o := ⟨_, rfl⟩
    obtain ⟨p, hpz⟩ : ∃ p, pzI N xss = p := ⟨_, rfl⟩
    simp only [ho] at HR VV VN1 VA VP KZ VZ
    simp only [hpz] at VV VN2 VA VP
    rw [hp] at HO
    clear hp hv c0 c1 D hform hdp ho hpz hz hm
    go_enter Tryd.func33, Tryd.ntmps33
    go_wp2_with fail
    refine HO.out.mono ?_
    rintro e w3 ⟨rfl, d, rfl⟩
    go_wp2_with fail
    refine (HR.out d).mono ?_
    rintro e w4 ⟨rfl, b4⟩
    have B4 : Below B w w4 := (RF.out d).trans (b4.mono (by show B ≤ w.heap.size; omega))
    obtain ⟨J, hJ⟩ : ∃ J, w4.heap.size = J := ⟨_, rfl⟩
    obtain ⟨w5, hw5⟩ : ∃ w5, w4.alloc (.cells #[.int .i64 va, .int .i64 vb, .int .i64 vc, .int .i64 vd, .int .i64 ve] 83) = w5 := ⟨_, rfl⟩
    have B5 : Hid (Below B w w5) := by rw [← hw5]; exact BA.out _ _ _ B4
    have D5 : w5.heap[J]? = some (.cells #[.int .i64 va, .int .i64 vb, .int .i64 vc, .int .i64 vd, .int .i64 ve] 83 (0, 0)) := by rw [← hw5, ← hJ]; exact heap_alloc_new _ _
    obtain ⟨y0, y1, y2, y3, y4, -, -, -, -, -⟩ := cells5 w5 J _ _ _ _ _ _ D5
    clear b4 B4 D5 lg hB
    cases o with
    | false =>
      have V := Lib.hid (VN1.out rfl)
      have hprm := VZ.out rfl
      simp only [prm, Value.agg.injEq, Array.mk.injEq, List.cons.injEq, Value.int.injEq, true_and, and_true] at hprm
      have v9 : IntKind.i64.wrap (vd - 1) = -1 := by rw [hprm.2.2.2.1]; decide
      clear hprm
      have vd1 : Hid True := trivial
      go_wp2
      try rw [hw5]
      go_ret
      exact ⟨by rw [V.out]; rfl, by rw [HB.out]; exact B5.out⟩
    | true =>
      obtain ⟨z2, z32⟩ := KZ.out rfl
      obtain ⟨rz, hprm⟩ := VV.out rfl
      simp only [prm, Value.agg.injEq, Array.mk.injEq, List.cons.injEq, Value.int.injEq, true_and, and_true] at hprm
      obtain ⟨rfl, -, -, rfl, rfl⟩ := hprm
      have sq : z * z ≤ 32 * 32 := Nat.mul_le_mul z32 z32
      have sqI : (z : Int) * (z : Int) = ((z * z : Nat) : Int) := by rw [Int.natCast_mul]
      obtain ⟨y, hy⟩ : ∃ y : Nat, z = y + 1 := ⟨z - 1, by omega⟩
      have e1 : (z : Int) - 1 = (y : Int) := by omega
      have sy : y * y ≤ 32 * 32 := Nat.mul_le_mul (by omega) (by omega)
      have syI : (y : Int) * (y : Int) = ((y * y : Nat) : Int) := by rw [Int.natCast_mul]
      have v2 : IntKind.i64.wrap ((z : Int) - 1) = (y : Int) := by rw [e1]; exact IntWalk.i64_in _ (by omega)
      have v3 := IntWalk.i64_in ((y : Int) * (y : Int)) (by omega)
      have v4 := IntWalk.i64_in ((y : Int) * (y : Int) + (y : Int)) (by omega)
      have v5 := IntWalk.i64_in ((y : Int) * (y : Int) + (y : Int) + 1) (by omega)
      have v6 : IntKind.i64.wrap (((z : Int) - 1) * ((z : Int) - 1)) = (y : Int) * (y : Int) := by rw [e1]; exact v3
      have v7 : IntKind.i64.wrap (((z : Int) - 1) * ((z : Int) - 1) + ((z : Int) - 1)) = (y : Int) * (y : Int) + (y : Int) := by rw [e1]; exact v4
      have v8 : IntKind.i64.wrap (((z : Int) - 1) * ((z : Int) - 1) + ((z : Int) - 1) + 1) = (y : Int) * (y : Int) + (y : Int) + 1 := by rw [e1]; exact v5
      have EQ : Hid (((z : Int) - 1) * ((z : Int) - 1) + z = (y : Int) * (y : Int) + (y : Int) + 1) := by unfold Hid; rw [e1]; omega
      have E1 := Lib.hid e1
      by_cases q1 : ve = 1
      · subst q1
        by_cases qb : (N : Int) = (y : Int) * y + y + 1
        · have t2 : ((N : Int) != (y : Int) * (y : Int) + (y : Int) + 1) = false := by simpa using qb
          have t2' : ((N : Int) != ((z : Int) - 1) * ((z : Int) - 1) + ((z : Int) - 1) + 1) = false := by rw [e1]; exact t2
          by_cases qc : 3 ≤ z
          · have t3 : decide ((y : Int) < 2) = false := decide_eq_false (by omega)
            have t3' : decide ((z : Int) - 1 < 2) = false := decide_eq_false (by omega)
            have V0 := VP.out rfl rfl qc (by rw [EQ.out]; exact qb)
            have V : Hid (ProjectiveOrder_0 N xss = (z : Int) - 1) := V0
            have V' : Hid (ProjectiveOrder_0 N xss = (y : Int)) := by unfold Hid; rw [V0]; exact e1
            clear qb V0 e1 hy sq sqI sy syI
            go_wp2
            try rw [hw5]
            go_ret
            exact ⟨by first | (rw [V.out]; rfl) | (rw [V'.out]; rfl), by rw [HB.out]; exact B5.out⟩
          · have t3 : decide ((y : Int) < 2) = true := decide_eq_true (by omega)
            have t3' : decide ((z : Int) - 1 < 2) = true := decide_eq_true (by omega)
            have V : Hid (ProjectiveOrder_0 N xss = 0) := by
              by_cases qa : (N : Int) = (z : Int) * z
              · exact VA.out rfl rfl z2 qa
              · exact VO.out qa (fun h => qc h.1)
            clear qb e1 hy sq sqI sy syI
            go_wp2
            try rw [hw5]
            go_ret
            exact ⟨by rw [V.out]; rfl, by rw [HB.out]; exact B5.out⟩
        · have t2 : ((N : Int) != (y : Int) * (y : Int) + (y : Int) + 1) = true := by simpa using qb
          have t2' : ((N : Int) != ((z : Int) - 1) * ((z : Int) - 1) + ((z : Int) - 1) + 1) = true := by rw [e1]; exact t2
          have V : Hid (ProjectiveOrder_0 N xss = 0) := by
            by_cases qa : (N : Int) = (z : Int) * z
            · exact VA.out rfl rfl z2 qa
            · exact VO.out qa (fun h => qb (by rw [← EQ.out]; exact h.2))
          by_cases qc : 3 ≤ z
          · have t3 : decide ((y : Int) < 2) = false := decide_eq_false (by omega)
            have t3' : decide ((z : Int) - 1 < 2) = false := decide_eq_false (by omega)
            clear e1 hy sq sqI sy syI
            replace qb := Lib.hid qb
            go_wp2
            try rw [hw5]
            go_ret
            exact ⟨by rw [V.out]; rfl, by rw [HB.out]; exact B5.out⟩
          · have t3 : decide ((y : Int) < 2) = true := decide_eq_true (by omega)
            have t3' : decide ((z : Int) - 1 < 2) = true := decide_eq_true (by omega)
            clear e1 hy sq sqI sy syI
            replace qb := Lib.hid qb
            go_wp2
            try rw [hw5]
            go_ret
            exact ⟨by rw [V.out]; rfl, by rw [HB.out]; exact B5.out⟩
      · have t1 : (ve != 1) = true := by simpa using q1
        have V := Lib.hid (VN2.out q1)
        replace q1 := Lib.hid q1
        by_cases qc : 3 ≤ z
        · have t3 : decide ((y : Int) < 2) = false := decide_eq_false (by omega)
          clear e1 hy sq sqI sy syI
          go_wp2
          try rw [hw5]
          go_ret
          exact ⟨by rw [V.out]; rfl, by rw [HB.out]; exact B5.out⟩
        · have t3 : decide ((y : Int) < 2) = true := decide_eq_true (by omega)
          clear e1 hy sq sqI sy syI
          go_wp2
          try rw [hw5]
          go_ret
          exact ⟨by rw [V.out]; rfl, by rw [HB.out]; exact B5.out⟩

set_option maxRecDepth 100000 in
set_option maxHeartbeats 4000000 in
theorem sProjectiveOrder (n : Int) (xss : List (List Int)) (w : World) (v : Value) (hv : RowsAt w v xss) :
    Calls Tryd.prog 13 #[.agg #[.int .i64 n, v]] w fun e w' => e = .returned (.int .i64 (ProjectiveOrder_0 n xss)) ∧ Below w.heap.size w w' := by
  obtain ⟨va, cap, rfl, -⟩ := hv.shape
  obtain ⟨m, hm⟩ : ∃ m, xss.length = m := ⟨_, rfl⟩
  rw [hm] at hv ⊢
  obtain ⟨B, hB⟩ : ∃ B, w.heap.size = B := ⟨_, rfl⟩
  obtain ⟨w1, hw1⟩ : ∃ w1, w.alloc (.cells #[.int .i64 n, .slice va m cap] 27) = w1 := ⟨_, rfl⟩
  have z1 : w1.heap.size = B + 1 := by rw [← hw1, World.size_alloc, hB]
  have b1 : Below B w w1 := by rw [← hw1]; exact (Below.refl _ _).alloc (by omega) _
  have A1 : w1.heap[B]? = some (.cells #[.int .i64 n, .slice va m cap] 27 (0, 0)) := by rw [← hw1, ← hB]; exact heap_alloc_new _ _
  obtain ⟨c0, c1⟩ := cells2A w1 B _ _ _ A1
  have HO := Lib.hid (s12Projective n xss w1 _ B c0 c1 (hv.below b1 (by omega)))
  have B1 := Lib.hid b1
  have Z1 := Lib.hid z1
  have HB := Lib.hid hB
  clear hv A1 b1 z1 c0 c1
  go_enter Tryd.func13, Tryd.ntmps13
  go_wp2_with fail
  try rw [hw1]
  try rw [hB]
  refine HO.out.mono ?_
  rintro e w3 ⟨rfl, b3⟩
  have B3 : Hid (Below B w w3) := B1.out.trans (b3.mono (by have := Z1.out; omega))
  clear b3
  go_wp2
  go_ret
  exact ⟨rfl, by rw [HB.out]; exact B3.out⟩
end Go.Proofs.YtdhlnagkhkcoiaaDoor
