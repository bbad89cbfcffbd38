/- ClearCells: the model. -/
import Derived.Test.YtaipgfahkpnooaaCl
namespace Go.Proofs.Ytaipgfahkpnooaa
open Go.RowKit Go.Shelf
set_option linter.unusedVariables false

set_option maxRecDepth 100000 in
set_option maxHeartbeats 8000000 in
theorem sClearCells (xss : List (List Int)) (cs : List Int) (hx : SmallLL xss) (hcs : SmallL cs) (w : World) (v u : Value) (hv : RowsAt w v xss) (hu : IntsC w u cs) :
    Calls Try.prog 16 #[v, u] w fun e w' => ∃ r, e = .returned (.tuple #[r, .int .i64 (ClearCells_1 xss cs)]) ∧ RowsAt w' r (ClearCells_0 xss cs) ∧ Below w.heap.size w w' := by
  have HS := Lib.hid (sPart w v xss hv)
  have hml := hv.1
  cases hp : ptB xss with
  | false =>
    obtain ⟨ua, uk, rfl⟩ := hu.shape
    obtain ⟨va, vk, rfl, -, -⟩ := hv.cellsOf
    have V := Lib.hid (Cl_bad (cs := cs) hp)
    rw [hp] at HS
    clear hp hv hu
    go_enter Try.func16, Try.ntmps16
    go_wp2_with fail
    refine HS.out.mono ?_
    rintro e w1 ⟨rfl, b1⟩
    have B1 := Lib.hid b1
    clear b1
    go_wp2
    go_ret2
    exact ⟨_, by rw [V.out.2]; rfl, by rw [V.out.1]; exact RowsAt.nil _ _ _, B1.out⟩
  | true =>
    have VO := Lib.hid (fun k => Cl_out (cs := cs) hp k)
    have VK := Lib.hid (fun k => Cl_ok (cs := cs) hp k)
    have S := of_ptB hp
    rw [hp] at HS
    have nhi := S.hi
    have nlo := S.lo
    have SG := S.grid
    have SR := Lib.hid S.row
    have HV := Lib.hid (fun W (h : Below w.heap.size w W) => hv.below h (Nat.le_refl _))
    obtain ⟨va, vk, rfl, -, -⟩ := hv.cellsOf
    obtain ⟨n, hn⟩ : ∃ n, xss.length = n := ⟨_, rfl⟩
    rw [hn] at VO VK nhi nlo SR SG hml HV
    have HO := Lib.hid (fun W (h : Below w.heap.size w W) => sOwn6 W _ xss n hn nhi SR.out (HV.out W h))
    have HN := Lib.hid hn
    obtain ⟨F, hF⟩ : ∃ F, cellF xss = F := ⟨_, rfl⟩
    rw [hF] at VK SG
    have HG := Lib.hid SG
    have NO : Hid (∀ i, i < cs.length → clr1 n cs i = false → clrB n cs = false) := fun i hi h => allN_false hi h
    have YES : Hid ((∀ i, i < cs.length → clr1 n cs i = true) → clrB n cs = true) := allN_true
    have C1 : Hid (∀ i, clr1 n cs i = decide (0 ≤ cs.getD i 0 ∧ cs.getD i 0 ≤ (n : Int) * n - 1)) := fun i => rfl
    have CS : Hid (∀ j, clrF n F cs (j + 1) = upd2 (clrF n F cs j) ((cs.getD j 0).toNat / n) ((cs.getD j 0).toNat % n) (-1)) := fun j => rfl
    have C0 : Hid (clrF n F cs 0 = F) := rfl
    have mm : (1 : Int) ≤ (n : Int) * n ∧ (n : Int) * n ≤ 100 := by
      constructor
      · have : (1 : Int) * 1 ≤ (n : Int) * n := Int.mul_le_mul (by omega) (by omega) (by omega) (by omega)
        omega
      · have : (n : Int) * n ≤ 10 * 10 := Int.mul_le_mul (by omega) (by omega) (by omega) (by omega)
        omega
    have CI : Hid (∀ t : Nat, (t : Int) ≤ (n : Int) * n - 1 → t / n < n ∧ t % n < n) := fun t h => clr_in h
    obtain ⟨M, hM⟩ : ∃ M : Int, (n : Int) * n = M := ⟨_, rfl⟩
    rw [hM] at mm C1 CI
    have wM : IntKind.i64.wrap ((n : Int) * (n : Int)) = M := by rw [hM]; exact IntWalk.i64_in _ (by omega)
    have wM1 : IntKind.i64.wrap (M - 1) = M - 1 := IntWalk.i64_in _ (by omega)
    obtain ⟨ua, uk, rfl, K⟩ := hu.1.look rfl
    obtain ⟨l, hl⟩ : ∃ l, cs.length = l := ⟨_, rfl⟩
    have l63 := hu.1.1
    rw [hl] at K NO YES VK l63
    rw [hl]
    rw [hn] at HS ⊢
    have HK := Lib.hid K
    clear hp hv S hn hF hM K hu hl SG HV
    go_enter Try.func16, Try.ntmps16
    go_wp2_with fail
    refine HS.out.mono ?_
    rintro e w1 ⟨rfl, b1⟩
    have B1 := Lib.hid b1
    clear b1
    go_wp2
    go_loop [7] (fun i => ∃ j : Nat, j ≤ l ∧ i = .int .i64 j ∧ Hid (∀ k, k < j → clr1 n cs k = true)) (fun i => l - (intOf i).toNat)
    case atStart => exact ⟨0, by omega, rfl, fun k h => by omega⟩
    case round =>
      obtain ⟨j, hj, rfl, hC⟩ := hrel
      by_cases c : j < l
      · have k1 : decide (j < l) = true := by simpa using c
        have k1' : decide ((j : Int) < (l : Int)) = true := decide_eq_true (by omega)
        have wj := IntWalk.i64_in ((j : Int) + 1) (by omega)
        have j0 : (0 : Int) ≤ (j : Int) := by omega
        have j1 : (j : Int) < (l : Int) := by omega
        obtain ⟨g2, off2, rfl, m1⟩ := HK.out w1 B1.out j c
        have c1 := C1.out j
        have NJ := Lib.hid (NO.out j c)
        obtain ⟨z, hz⟩ : ∃ z, cs.getD j 0 = z := ⟨_, rfl⟩
        rw [hz] at m1 c1
        clear hz
        by_cases k : 0 ≤ z ∧ z ≤ M - 1
        · have HI := Lib.hid (fun W => in_yes' z 0 (M - 1) W k.1 k.2)
          have C2 : Hid (∀ k, k < j + 1 → clr1 n cs k = true) := fun i hi => by
            by_cases e : i = j
            · rw [e, c1]; exact decide_eq_true k
            · exact hC.out i (by omega)
          clear c1 k NJ
          go_wp2_with fail
          refine (HI.out _).mono ?_
          rintro e w2 ⟨rfl, rfl⟩
          go_wp2
          go_round
          case rel => exact ⟨j + 1, by omega, by go_num, C2⟩
          case measure => simp [intOf]; omega
        · have V := Lib.hid (VO.out (NJ.out (by rw [c1]; exact decide_eq_false k)))
          have HI := Lib.hid (fun W => in_no' z 0 (M - 1) W (by omega))
          clear c1 k NJ VO VK
          go_wp2_with fail
          refine (HI.out _).mono ?_
          rintro e w2 ⟨rfl, rfl⟩
          go_wp2
          go_ret2
          exact ⟨_, by rw [V.out.2]; rfl, by rw [V.out.1]; exact RowsAt.nil _ _ _, B1.out⟩
      · have k1 : decide (j < l) = false := by simpa using c
        have k1' : decide ((j : Int) < (l : Int)) = false := decide_eq_false (by omega)
        obtain rfl : j = l := by omega
        have V := Lib.hid (VK.out (YES.out hC.out))
        have RNG : Hid (∀ i, i < j → 0 ≤ cs.getD i 0 ∧ cs.getD i 0 ≤ M - 1) := fun i hi => by
          have := hC.out i hi
          rw [C1.out] at this
          exact of_decide_eq_true this
        obtain ⟨l, rfl⟩ : ∃ l, l = j := ⟨_, rfl⟩
        clear VO VK NO YES hC
        go_wp2_with fail
        refine (HO.out _ B1.out).mono ?_
        rintro e w3 ⟨o, rfl, r3, b3⟩
        rw [← HG.out] at r3
        obtain ⟨g0, k0, rfl⟩ := RowsL.parts r3 nlo
        have B3 := Lib.hid (t_chain B1.out b3)
        have R3 : Hid (RowsL w3 w1.heap.size w3.heap.size (.slice (some ⟨g0, 0, none⟩) n k0) (gridL n n (clrF n F cs 0))) := r3
        have hw1 : w.heap.size ≤ w1.heap.size := B1.out.size
        obtain ⟨B, hB⟩ : ∃ B, w1.heap.size = B := ⟨_, rfl⟩
        obtain ⟨L, hL⟩ : ∃ L, w3.heap.size = L := ⟨_, rfl⟩
        rw [hB] at R3 hw1
        rw [hL] at R3
        clear r3 b3 hB hL
        go_wp2
        go_loopw [9] (fun i wr => ∃ j : Nat, j ≤ l ∧ i = .int .i64 j ∧ Hid (RowsL wr B L (.slice (some ⟨g0, 0, none⟩) n k0) (gridL n n (clrF n F cs j))) ∧ Hid (Below w.heap.size w wr)) (fun i _ => l - (intOf i).toNat)
        case atStart => exact ⟨0, by omega, rfl, R3, B3⟩
        case round =>
          obtain ⟨j, hj, rfl, hR, hBl⟩ := hrel
          by_cases c2 : j < l
          · have q1' : decide (j < l) = true := by simpa using c2
            have q1'' : decide ((j : Int) < (l : Int)) = true := decide_eq_true (by omega)
            have wj := IntWalk.i64_in ((j : Int) + 1) (by omega)
            have j0 : (0 : Int) ≤ (j : Int) := by omega
            have j1 : (j : Int) < (l : Int) := by omega
            obtain ⟨wd, hwd⟩ : ∃ wd, wr.drew = wd := ⟨_, rfl⟩
            have BD : Below w.heap.size w wd := by rw [← hwd]; exact hBl.out.drew
            have RD : RowsL wd B L (.slice (some ⟨g0, 0, none⟩) n k0) (gridL n n (clrF n F cs j)) := by rw [← hwd]; exact hR.out
            obtain ⟨g2, off2, rfl, m1⟩ := HK.out wd BD j c2
            have rng := RNG.out j c2
            have cs1 := CS.out j
            obtain ⟨z, hz⟩ : ∃ z, cs.getD j 0 = z := ⟨_, rfl⟩
            rw [hz] at m1 cs1 rng
            obtain ⟨t, rfl⟩ : ∃ t : Nat, z = t := ⟨z.toNat, by omega⟩
            rw [Int.toNat_natCast] at cs1
            have ti := CI.out t rng.2
            have z1 : ¬ (n : Int) = 0 := by omega
            have z2 : ((n : Int) == 0) = false := by simp; omega
            have z3 : ¬ n = 0 := by omega
            have z4 : (n == 0) = false := by simp; omega
            have tx : (t : Int).tdiv (n : Int) = ((t / n : Nat) : Int) := by rw [Int.tdiv_eq_ediv_of_nonneg (by omega)]; exact (Int.natCast_ediv t n).symm
            have dx : (t : Int) / (n : Int) = ((t / n : Nat) : Int) := (Int.natCast_ediv t n).symm
            have ux : (t : Int).tmod (n : Int) = ((t % n : Nat) : Int) := by rw [Int.tmod_eq_emod_of_nonneg (by omega)]; exact (Int.natCast_emod t n).symm
            have mx : (t : Int) % (n : Int) = ((t % n : Nat) : Int) := (Int.natCast_emod t n).symm
            obtain ⟨q1, hq1⟩ : ∃ q, t / n = q := ⟨_, rfl⟩
            obtain ⟨q2, hq2⟩ : ∃ q, t % n = q := ⟨_, rfl⟩
            rw [hq1, hq2] at ti cs1
            rw [hq1] at tx dx
            rw [hq2] at ux mx
            have v1 := IntWalk.i64_in (q1 : Int) (by omega)
            have v2 := IntWalk.i64_in (q2 : Int) (by omega)
            obtain ⟨g0', c0', g, cc, e0, m2, m3, fz, l1, l2, hp⟩ := gridSet RD ti.1 ti.2
            simp only [Value.slice.injEq, Option.some.injEq, Addr.mk.injEq] at e0
            obtain ⟨⟨rfl, -⟩, -, -⟩ := e0
            have hp2 := hp (-1)
            rw [← cs1] at hp2
            have R4 := Lib.hid hp2
            have B4 : Hid (Below w.heap.size w (wd.setCell ⟨g, q2, none⟩ (.int .i64 (-1)))) := BD.setCell (p := ⟨g, q2, none⟩) (Nat.le_trans hw1 l1) _
            have a0 : (0 : Int) ≤ (q1 : Int) := by omega
            have a1 : (q1 : Int) < (n : Int) := by omega
            have b0 : (0 : Int) ≤ (q2 : Int) := by omega
            have b1 : (q2 : Int) < (n : Int) := by omega
            clear RD BD hp hp2 cs1 ti hq1 hq2 hz rng
            go_wp2
            refine wp_region_still_tail 16 (by kernel_rfl) (by kernel_rfl) ?_
            simp only [List.take_succ_cons, List.take_zero, List.drop_succ_cons, List.drop_zero]
            change wpStill _ _ wr.drew _ _ _
            rw [hwd]
            repeat still_step
            refine wpStill_nil ?_
            change wpList _ _ _ _ _ wr.drew
            rw [hwd]
            clear hwd
            go_wp2
            go_roundw
            case rel => exact ⟨j + 1, by omega, by go_num, R4, B4⟩
            case measure => simp [intOf]; omega
          · have q1' : decide (j < l) = false := by simpa using c2
            have q1'' : decide ((j : Int) < (l : Int)) = false := decide_eq_false (by omega)
            obtain rfl : j = l := by omega
            have RR := Lib.hid hR.out.at
            go_wp2
            go_ret2
            exact ⟨_, by rw [V.out.2]; rfl, by rw [V.out.1]; exact RR.out, hBl.out⟩
end Go.Proofs.Ytaipgfahkpnooaa
