/- TransversalsOfMate: the numbers; the model. -/
import Derived.Test.YtkonddifmonkcaaOrs
import Derived.Test.YtkonddifmonkcaaSyd
namespace Go.Proofs.Ytkonddifmonkcaa
open Go.RowKit
set_option linter.unusedVariables false

def tmF (yss : List (List Int)) (n : Nat) : Nat → Nat → Int := fun s k => firstAt (yss.getD k []) ((s : Nat) : Int) n
theorem tmF_row (yss : List (List Int)) (n s : Nat) : firsts yss ((s : Nat) : Int) n n = (List.range n).map (tmF yss n s) := rfl
noncomputable def TransversalsOfMate_0 (xss yss : List (List Int)) : List (List Int) := if Orthogonal_0 xss yss = true then gridL yss.length yss.length (tmF yss yss.length) else []
noncomputable def TransversalsOfMate_1 (xss yss : List (List Int)) : Int := if sqB xss = true ∧ sqB yss = true then if Orthogonal_0 xss yss = true then 0 else 6 else 1
theorem Orth_sq {xss yss : List (List Int)} (h : Orthogonal_0 xss yss = true) : (sqB xss = true ∧ sqB yss = true) ∧ xss.length = yss.length := by
  by_cases k : (sqB xss = true ∧ sqB yss = true) ∧ xss.length = yss.length
  · exact k
  · rw [Orth_no k] at h; cases h
theorem Tm_bad {xss yss : List (List Int)} (h : ¬ (sqB xss = true ∧ sqB yss = true)) : TransversalsOfMate_0 xss yss = [] ∧ TransversalsOfMate_1 xss yss = 1 := by
  unfold TransversalsOfMate_0 TransversalsOfMate_1
  rw [if_neg (fun k => h (Orth_sq k).1), if_neg h]; exact ⟨rfl, rfl⟩
theorem Tm_far {xss yss : List (List Int)} (h : sqB xss = true ∧ sqB yss = true) (k : Orthogonal_0 xss yss = false) : TransversalsOfMate_0 xss yss = [] ∧ TransversalsOfMate_1 xss yss = 6 := by
  unfold TransversalsOfMate_0 TransversalsOfMate_1
  rw [k, if_neg Bool.noConfusion, if_pos h, if_neg Bool.noConfusion]; exact ⟨rfl, rfl⟩
theorem Tm_ok {xss yss : List (List Int)} (h : sqB xss = true ∧ sqB yss = true) (k : Orthogonal_0 xss yss = true) : TransversalsOfMate_0 xss yss = gridL yss.length yss.length (tmF yss yss.length) ∧ TransversalsOfMate_1 xss yss = 0 := by
  unfold TransversalsOfMate_0 TransversalsOfMate_1
  rw [k, if_pos rfl, if_pos h, if_pos rfl]; exact ⟨rfl, rfl⟩
theorem lenTransversalsOfMate_0 (xss yss : List (List Int)) (hx : SmallLL xss) (hy : SmallLL yss) : (TransversalsOfMate_0 xss yss).length + tot (TransversalsOfMate_0 xss yss) ≤ 2000000 := by
  by_cases h : sqB xss = true ∧ sqB yss = true
  · cases k : Orthogonal_0 xss yss with
    | true =>
      have := (of_sqB h.2).hi
      rw [(Tm_ok h k).1, gridL_length, tot_gridL]
      have : yss.length * yss.length ≤ 10 * 10 := Nat.mul_le_mul this this
      omega
    | false => rw [(Tm_far h k).1]; decide
  · rw [(Tm_bad h).1]; decide

set_option maxRecDepth 100000 in
set_option maxHeartbeats 8000000 in
theorem sTransversalsOfMate (xss yss : List (List Int)) (hx : SmallLL xss) (hy : SmallLL yss) (w : World) (v u : Value) (hv : RowsAt w v xss) (hu : RowsAt w u yss) :
    Calls Try.prog 33 #[v, u] w fun e w' => ∃ r, e = .returned (.tuple #[r, .int .i64 (TransversalsOfMate_1 xss yss)]) ∧ RowsAt w' r (TransversalsOfMate_0 xss yss) ∧ Below w.heap.size w w' := by
  have HA := Lib.hid (sSq w v xss hv)
  have HU := Lib.hid (fun W (b : Below w.heap.size w W) => sSq W u yss (hu.below b (Nat.le_refl _)))
  have HO := Lib.hid (fun W (b : Below w.heap.size w W) => sOrtho xss yss W v u (hv.below b (Nat.le_refl _)) (hu.below b (Nat.le_refl _)))
  have HS := Lib.hid (fun W (b : Below w.heap.size w W) (s : Int) (hs : I64 s) => sSymI yss s hy hs W u (hu.below b (Nat.le_refl _)))
  have VB := Lib.hid (fun k => Tm_bad (xss := xss) (yss := yss) k)
  have VF := Lib.hid (fun k => Tm_far (xss := xss) (yss := yss) k)
  have VO := Lib.hid (fun k => Tm_ok (xss := xss) (yss := yss) k)
  have SB := Lib.hid (fun k => of_sqB (xss := yss) k)
  have SY := Lib.hid (fun k s h => Sym_ok (xss := yss) (s := s) k h)
  have hm1 := hv.1
  have hm2 := hu.1
  obtain ⟨va, vk, rfl, -, -⟩ := hv.cellsOf
  obtain ⟨ua, uk, rfl, -, -⟩ := hu.cellsOf
  obtain ⟨z1, hz1⟩ : ∃ z, sqB xss = z := ⟨_, rfl⟩
  obtain ⟨z2, hz2⟩ : ∃ z, sqB yss = z := ⟨_, rfl⟩
  obtain ⟨z3, hz3⟩ : ∃ z, Orthogonal_0 xss yss = z := ⟨_, rfl⟩
  rw [hz1] at HA
  simp only [hz2] at HU
  simp only [hz3] at HO
  simp only [hz1, hz2, hz3] at VB VF VO SB SY
  obtain ⟨n, hn⟩ : ∃ n, xss.length = n := ⟨_, rfl⟩
  obtain ⟨m, hm⟩ : ∃ m, yss.length = m := ⟨_, rfl⟩
  rw [hn] at HA HO hm1 ⊢
  rw [hm] at HU HO HS VO SY hm2 ⊢
  have HM := Lib.hid hm
  clear hv hu hx hy hz1 hz2 hz3 hn hm
  cases z1 with
  | false =>
    have V := Lib.hid (VB.out (by simp))
    clear VB VF VO SB SY
    go_enter Try.func33, Try.ntmps33
    go_wp2_with fail
    refine HA.out.mono ?_
    rintro e w1 ⟨rfl, b1⟩
    have B1 := Lib.hid b1
    clear b1
    go_wp2
    go_ret2
    exact ⟨_, by rw [V.out.2]; rfl, by rw [V.out.1]; exact RowsAt.nil _ _ _, B1.out⟩
  | true =>
    cases z2 with
    | false =>
      have V := Lib.hid (VB.out (by simp))
      clear VB VF VO SB SY
      go_enter Try.func33, Try.ntmps33
      go_wp2_with fail
      refine HA.out.mono ?_
      rintro e w1 ⟨rfl, b1⟩
      have B1 := Lib.hid b1
      clear b1
      go_wp2_with fail
      refine (HU.out w1 B1.out).mono ?_
      rintro e w2 ⟨rfl, b2⟩
      have B2 := Lib.hid (t_chain B1.out b2)
      clear b2
      go_wp2
      go_ret2
      exact ⟨_, by rw [V.out.2]; rfl, by rw [V.out.1]; exact RowsAt.nil _ _ _, B2.out⟩
    | true =>
      cases z3 with
      | false =>
        have V := Lib.hid (VF.out (by simp) rfl)
        clear VB VF VO SB SY
        go_enter Try.func33, Try.ntmps33
        go_wp2_with fail
        refine HA.out.mono ?_
        rintro e w1 ⟨rfl, b1⟩
        have B1 := Lib.hid b1
        clear b1
        go_wp2_with fail
        refine (HU.out w1 B1.out).mono ?_
        rintro e w2 ⟨rfl, b2⟩
        have B2 := Lib.hid (t_chain B1.out b2)
        clear b2
        go_wp2_with fail
        refine (HO.out w2 B2.out).mono ?_
        rintro e w3 ⟨rfl, b3⟩
        have B3 := Lib.hid (t_chain B2.out b3)
        clear b3
        go_wp2
        go_ret2
        exact ⟨_, by rw [V.out.2]; rfl, by rw [V.out.1]; exact RowsAt.nil _ _ _, B3.out⟩
      | true =>
        have V := Lib.hid (VO.out (by simp) rfl)
        have S2 := SB.out (by trivial)
        have l2 := S2.hi
        rw [HM.out] at l2
        have SC : Hid (∀ s : Nat, s < m → SymbolColumns_0 yss ((s : Nat) : Int) = (List.range m).map (tmF yss m s) ∧ SymbolColumns_1 yss ((s : Nat) : Int) = 0) := fun s hs => by
          have := SY.out (by trivial) ((s : Nat) : Int) ⟨by omega, by omega⟩
          rw [tmF_row] at this
          exact this
        have GS : Hid (∀ j, gridL (j + 1) m (tmF yss m) = gridL j m (tmF yss m) ++ [(List.range m).map (tmF yss m j)]) := fun j => gridL_succ j m _
        have GL : Hid (∀ j, (gridL j m (tmF yss m)).length = j) := fun j => gridL_length j m _
        clear VB VF VO SB SY S2
        go_enter Try.func33, Try.ntmps33
        go_wp2_with fail
        refine HA.out.mono ?_
        rintro e w1 ⟨rfl, b1⟩
        have B1 := Lib.hid b1
        clear b1
        go_wp2_with fail
        refine (HU.out w1 B1.out).mono ?_
        rintro e w2 ⟨rfl, b2⟩
        have B2 := Lib.hid (t_chain B1.out b2)
        clear b2
        go_wp2_with fail
        refine (HO.out w2 B2.out).mono ?_
        rintro e w3 ⟨rfl, b3⟩
        have b3' := t_chain B2.out b3
        obtain ⟨B, hB⟩ : ∃ B, w3.heap.size = B := ⟨_, rfl⟩
        have hwB : w.heap.size ≤ B := by rw [← hB]; exact b3'.size
        have bo : Below w.heap.size w (w3.alloc (.cells #[] 35)) := b3'.alloc b3'.size _
        have R0 : RowsL (w3.alloc (.cells #[] 35)) B (w3.alloc (.cells #[] 35)).heap.size (.slice (some ⟨B, 0, none⟩) 0 0) (gridL 0 m (tmF yss m)) := by
          have := RowsL.made w3 B 0 #[] (by omega) (by decide) rfl
          rw [hB] at this
          rw [World.size_alloc, hB]
          exact this
        obtain ⟨wo, hwo⟩ : ∃ wo, w3.alloc (.cells #[] 35) = wo := ⟨_, rfl⟩
        rw [hwo] at bo R0
        have BO := Lib.hid bo
        have RO := Lib.hid R0
        have zo : B ≤ wo.heap.size := by rw [← hwo, World.size_alloc]; omega
        clear b3 b3' bo R0
        go_wp2
        clear hwo hB
        go_loopw [6, 7] (fun rv i wr => ∃ j : Nat, j ≤ m ∧ i = .int .i64 j ∧ Hid (RowsL wr B wr.heap.size rv (gridL j m (tmF yss m))) ∧ Hid (Below w.heap.size w wr) ∧ B ≤ wr.heap.size) (fun _ i _ => m - (intOf i).toNat)
        case atStart => exact ⟨0, by omega, rfl, RO, BO, zo⟩
        case round =>
          obtain ⟨j, hj, rfl, hR, hBl, hz⟩ := hrel
          by_cases c : j < m
          · have k1 : decide (j < m) = true := by simpa using c
            have k1' : decide ((j : Int) < (m : Int)) = true := decide_eq_true (by omega)
            have wx3 := IntWalk.i64_in ((j : Int) + 1) (by omega)
            have j0 : (0 : Int) ≤ (j : Int) := by omega
            have sc := SC.out j c
            have gs := Lib.hid (GS.out j)
            have gl := GL.out j
            have HC := Lib.hid (HS.out wr hBl.out ((j : Nat) : Int) (by unfold I64; omega))
            rw [sc.1, sc.2] at HC
            obtain ⟨R, hRR⟩ : ∃ R, (List.range m).map (tmF yss m j) = R := ⟨_, rfl⟩
            rw [hRR] at HC gs
            clear sc hRR
            obtain ⟨ov, rfl⟩ : ∃ ov : Value, ov = u6 := ⟨_, rfl⟩
            obtain ⟨wc, rfl⟩ : ∃ wc : World, wc = wr := ⟨_, rfl⟩
            go_wp2_with fail
            refine HC.out.mono ?_
            rintro e w4 ⟨r, rfl, i4, b4⟩
            obtain ⟨ra, rc, rfl⟩ := Ints.len_eq i4
            have I4 := Lib.hid i4
            have R4 := Lib.hid (hR.out.below b4 (Nat.le_refl _))
            have B4 := Lib.hid (t_chain hBl.out b4)
            have z4 : B ≤ w4.heap.size := Nat.le_trans hz b4.size
            have hz4 : wc.heap.size ≤ w4.heap.size := b4.size
            clear i4 b4
            go_wp2_with (at_builtin; refine wpList_pushR w4 (by rfl) _ _ (by rfl) B wc.heap.size _ _ _ _ (by rfl) R4.out I4.out _ (by rfl) (by rw [gl]; omega) hz ?_; intro v' w6 hn hb; have HN := Lib.hid hn; have HB6 := Lib.hid hb; clear hn hb)
            go_roundw
            case rel => exact ⟨j + 1, by omega, by go_num, by unfold Hid; rw [gs.out]; exact HN.out, B4.out.trans (HB6.out.mono hwB), Nat.le_trans z4 HB6.out.size⟩
            case measure => simp [intOf]; omega
          · have k1 : decide (j < m) = false := by simpa using c
            have k1' : decide ((j : Int) < (m : Int)) = false := decide_eq_false (by omega)
            obtain rfl : j = m := by omega
            have RR := Lib.hid hR.out.at
            go_wp2
            go_ret2
            exact ⟨_, by rw [V.out.2]; rfl, by rw [V.out.1]; exact RR.out, hBl.out⟩
end Go.Proofs.Ytkonddifmonkcaa
