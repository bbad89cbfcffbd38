/- DualDesign: the model. -/
import Derived.Test.YtpckbhelnoeifaaDoorDlw
import Derived.Test.YtpckbhelnoeifaaDoorInd
namespace Go.Proofs.YtpckbhelnoeifaaDoor
open Go.RowKit Go.Shelf
set_option linter.unusedVariables false
set_option linter.unusedSimpArgs false

/-- The point a stands in the block i. -/
def inB (xss : List (List Int)) (a i : Nat) : Bool := decide ((a : Int) ∈ xss.getD i [])
noncomputable def DualDesign_N (n : Int) (xss : List (List Int)) : Int := if desB n xss then if 1 ≤ xss.length ∧ xss.length ≤ 32 then dxN xss.length (setsL n.toNat xss.length (inB xss)) else 0 else 0
noncomputable def DualDesign_L (n : Int) (xss : List (List Int)) : List (List Int) := if desB n xss then if 1 ≤ xss.length ∧ xss.length ≤ 32 then dxL (setsL n.toNat xss.length (inB xss)) else [] else []
noncomputable def DualDesign_C (n : Int) (xss : List (List Int)) : Int := if desB n xss then if 1 ≤ xss.length ∧ xss.length ≤ 32 then dxC (setsL n.toNat xss.length (inB xss)) else 2 else 1
theorem dual_no {n : Int} {xss : List (List Int)} (h : desB n xss = false) : DualDesign_N n xss = 0 ∧ DualDesign_L n xss = [] ∧ DualDesign_C n xss = 1 := by
  unfold DualDesign_N DualDesign_L DualDesign_C; rw [h]; exact ⟨rfl, rfl, rfl⟩
theorem dual_range {n : Int} {xss : List (List Int)} (h : desB n xss = true) (k : ¬ (1 ≤ xss.length ∧ xss.length ≤ 32)) : DualDesign_N n xss = 0 ∧ DualDesign_L n xss = [] ∧ DualDesign_C n xss = 2 := by
  unfold DualDesign_N DualDesign_L DualDesign_C; rw [h, if_neg k, if_neg k, if_neg k]; exact ⟨rfl, rfl, rfl⟩
theorem dual_yes {n : Int} {xss : List (List Int)} (h : desB n xss = true) (k : 1 ≤ xss.length ∧ xss.length ≤ 32) : DualDesign_N n xss = dxN xss.length (setsL n.toNat xss.length (inB xss)) ∧ DualDesign_L n xss = dxL (setsL n.toNat xss.length (inB xss)) ∧ DualDesign_C n xss = dxC (setsL n.toNat xss.length (inB xss)) := by
  unfold DualDesign_N DualDesign_L DualDesign_C; rw [h, if_pos k, if_pos k, if_pos k]; exact ⟨rfl, rfl, rfl⟩
theorem totDualDesign (n : Int) (xss : List (List Int)) : tot (DualDesign_L n xss) ≤ 2000 := by
  unfold DualDesign_L
  split
  · rename_i h
    split
    · rename_i k
      have d := of_desB h
      have a := (dxL_tot (setsL n.toNat xss.length (inB xss))).1
      have b := setsL_tot n.toNat xss.length (inB xss)
      have c : n.toNat * xss.length ≤ 32 * 32 := Nat.mul_le_mul (by have := d.2.1; omega) k.2
      omega
    · simp [tot]
  · simp [tot]

set_option maxRecDepth 100000 in
set_option maxHeartbeats 4000000 in
theorem sDualDesign (n : Int) (xss : List (List Int)) (W : World) (v : Value) (hv : RowsAt W v xss) :
    Calls Tryd.prog 28 #[.agg #[.int .i64 n, v]] W fun e w' => ∃ z, e = .returned (.tuple #[.agg #[.int .i64 (DualDesign_N n xss), z], .int .i64 (DualDesign_C n xss)]) ∧ RowsL w' W.heap.size w'.heap.size z (DualDesign_L n xss) ∧ Below W.heap.size W w' := by
  obtain ⟨a, cap, rfl, K⟩ := hv.rowsIn
  obtain ⟨m, hm⟩ : ∃ m, xss.length = m := ⟨_, rfl⟩
  rw [hm] at hv K ⊢
  obtain ⟨B, hB⟩ : ∃ B, W.heap.size = B := ⟨_, rfl⟩
  rw [hB] at K
  obtain ⟨w1, hw1⟩ : ∃ w1, W.alloc (.cells #[.int .i64 n, .slice a m cap] 30) = w1 := ⟨_, rfl⟩
  have z1 : w1.heap.size = B + 1 := by rw [← hw1, World.size_alloc, hB]
  have b1 : Below B W w1 := by rw [← hw1]; exact (Below.refl _ _).alloc (by omega) _
  have A1 : w1.heap[B]? = some (.cells #[.int .i64 n, .slice a m cap] 30 (0, 0)) := by rw [← hw1, ← hB]; exact heap_alloc_new _ _
  obtain ⟨w2, hw2⟩ : ∃ w2, w1.alloc (.cells #[.int .i64 0, .slice none 0 0] 30) = w2 := ⟨_, rfl⟩
  have z2 : w2.heap.size = B + 2 := by rw [← hw2, World.size_alloc, z1]
  have b12 : Below (B + 1) w1 w2 := by rw [← hw2]; exact (Below.refl _ _).alloc (Nat.le_of_eq z1.symm) _
  have b2 : Below B W w2 := b1.trans (b12.mono (by omega))
  have A2 : w2.heap[B]? = some (.cells #[.int .i64 n, .slice a m cap] 30 (0, 0)) := (b12.block B (by omega)).trans A1
  have R2 : w2.heap[B + 1]? = some (.cells #[.int .i64 0, .slice none 0 0] 30 (0, 0)) := by rw [← hw2, ← z1]; exact heap_alloc_new _ _
  have c0 : w2.cell? ⟨B, 0, none⟩ = some (.int .i64 n) := by rw [cell_of_row w2 B 0 _ _ _ A2]; rfl
  have c1 : w2.cell? ⟨B, 1, none⟩ = some (.slice a m cap) := by rw [cell_of_row w2 B 1 _ _ _ A2]; rfl
  have HO := Lib.hid (sOk n xss w2 _ B c0 c1 (hv.below b2 (by omega)))
  have HB := Lib.hid hB
  have B2 := Lib.hid b2
  have HR := Lib.hid R2
  cases hp : desB n xss with
  | false =>
    have V := Lib.hid (dual_no hp)
    rw [hp] at HO
    clear hp hv A1 A2 b1 b12 b2 K R2
    go_enter Tryd.func28, Tryd.ntmps28
    go_wp2_with fail
    try rw [hw1]
    try rw [hw2]
    refine HO.out.mono ?_
    rintro e w3 ⟨rfl, d, rfl⟩
    have RX : Hid ((w2.drewN d).heap[B + 1]? = some (.cells #[.int .i64 0, .slice none 0 0] 30 (0, 0))) := HR.out
    have BX : Hid (Below B W (w2.drewN d)) := below_drewN B2.out d
    obtain ⟨w4, hw4⟩ : ∃ W, w2.drewN d = W := ⟨_, rfl⟩
    rw [hw4] at RX BX ⊢
    clear hw4 c0 c1
    have f0 := frozen_of_row w4 (B + 1) 0 _ _ RX.out
    have f1 := frozen_of_row w4 (B + 1) 1 _ _ RX.out
    have d0 : w4.cell? ⟨B + 1, 0, none⟩ = some (.int .i64 0) := by rw [cell_of_row w4 (B + 1) 0 _ _ _ RX.out]; rfl
    have d1 : w4.cell? ⟨B + 1, 1, none⟩ = some (.slice none 0 0) := by rw [cell_of_row w4 (B + 1) 1 _ _ _ RX.out]; rfl
    go_wp2
    have R9 := set2_row w4 (B + 1) _ _ (.int .i64 0) (.slice none 0 0) _ RX.out
    have B9 := (BX.out.setCell (p := ⟨B + 1, 0, none⟩) (by simp only; omega) (.int .i64 0)).setCell (p := ⟨B + 1, 1, none⟩) (by simp only; omega) (.slice none 0 0)
    have hld := run_loadVar_row (P := Tryd.prog) _ _ 30 30 #[.int .i64 0, .slice none 0 0] (0, 0) _ R9 Tryd.underlying30 rfl Tryd.infoDes
    refine bodyPost_ret (v := .tuple #[.agg #[.int .i64 0, .slice none 0 0], .int .i64 1]) ?_ rfl ⟨_, by rw [V.out.1, V.out.2.2], ?_, by rw [HB.out]; exact B9⟩
    · rw [results_cell_tmp rfl]
      simp [asAddr, Result.andThen, hld]
    · rw [V.out.2.1]; exact RowsL.nil _ _ _ (Nat.le_refl _)
  | true =>
    have D := of_desB hp
    have m128 : m ≤ 128 := by have := D.2.2.1; omega
    obtain ⟨N, rfl⟩ : ∃ N : Nat, n = N := ⟨n.toNat, by have := D.1; omega⟩
    have n32 : N ≤ 32 := by have := D.2.1; omega
    have n1 : 1 ≤ N := by have := D.1; omega
    have HIn := Lib.hid (fun W2 => in_any (m : Int) 1 32 W2)
    rw [hp] at HO
    have DC := Lib.hid (fun W2 (h : Below (B + 2) w2 W2) => And.intro (show W2.cell? ⟨B, 0, none⟩ = some (.int .i64 (N : Int)) from (h.cell (p := ⟨B, 0, none⟩) (show B < B + 2 by omega)).trans c0) (show W2.cell? ⟨B, 1, none⟩ = some (.slice a m cap) from (h.cell (p := ⟨B, 1, none⟩) (show B < B + 2 by omega)).trans c1))
    have BW := Lib.hid (fun W2 (h : Below (B + 2) w2 W2) => b2.trans (h.mono (show B ≤ B + 2 by omega)))
    have RW := Lib.hid (fun W2 (h : Below (B + 2) w2 W2) => (h.block (B + 1) (show B + 1 < B + 2 by omega)).trans R2)
    by_cases hk : 1 ≤ m ∧ m ≤ 32
    · have V := Lib.hid (dual_yes hp (by rw [hm]; exact hk))
      rw [hm, Int.toNat_natCast] at V
      have hk2 : 1 ≤ (m : Int) ∧ (m : Int) ≤ 32 := by omega
      rw [decide_eq_true hk2] at HIn
      have HK : Hid (∀ W2, Below B W W2 → ∀ j, j < m → ∃ g1 o1 u, a = some ⟨g1, o1, none⟩ ∧ W2.cell? ⟨g1, o1 + j, none⟩ = some u ∧ ∀ x : Nat, Calls Tryd.prog 57 #[u, .int .i64 (x : Int)] W2 fun e w' => e = .returned (.bool (inB xss x j)) ∧ W2 = w') := fun W2 hW j hj => by
        obtain ⟨g1, o1, u, e1, e2, e3⟩ := K W2 hW j hj
        exact ⟨g1, o1, u, e1, e2, fun x => shas W2 u _ _ e3⟩
      obtain ⟨F, hF⟩ : ∃ F, inB xss = F := ⟨_, rfl⟩
      rw [hF] at HK V
      have GS : Hid (∀ x, setsL (x + 1) m F = setsL x m F ++ [fls m (F x)]) := fun x => setsL_succ x m F
      have GL : Hid (∀ x, (setsL x m F).length = x) := fun x => setsL_len x m F
      have RS : Hid (∀ x j, fls (j + 1) (F x) = fls j (F x) ++ if F x j then [(j : Int)] else []) := fun x j => fls_succ j (F x)
      have RL : Hid (∀ x j, (fls j (F x)).length ≤ j) := fun x j => fls_len j (F x)
      have R0 : Hid (∀ x, fls 0 (F x) = []) := fun x => rfl
      have VE : Hid (∀ x, x < N → fls m (F x) = [] → dxN (m : Int) (setsL N m F) = 0 ∧ dxL (setsL N m F) = [] ∧ dxC (setsL N m F) = 6) := fun x hx e =>
        dx_empty m (anyE_true (i := x) (by rw [setsL_len]; exact hx) (by rw [setsL_at N m F x hx]; exact e))
      have VM : Hid ((∀ x, x < N → fls m (F x) ≠ []) → mkN (m : Int) (setsL N m F) = dxN (m : Int) (setsL N m F) ∧ mkL (m : Int) (setsL N m F) = dxL (setsL N m F) ∧ mkC (m : Int) (setsL N m F) = dxC (setsL N m F)) := fun h =>
        dx_mk (by omega) (by omega) (anyE_false fun i hi => by rw [setsL_len] at hi; rw [setsL_at N m F i hi]; exact h i hi) (fun i hi => by rw [setsL_len] at hi; rw [setsL_at N m F i hi]; exact fls_rises m (F i))
      have HM := Lib.hid (fun W2 u (h : RowsAt W2 u (setsL N m F)) => sMake (m : Int) (by omega) (by omega) (setsL N m F) (by rw [setsL_len]; omega) (fun i hi => by rw [setsL_len] at hi; rw [setsL_at N m F i hi]; have := fls_len m (F i); omega) W2 u h)
      obtain ⟨vn, hvn⟩ : ∃ z, dxN (m : Int) (setsL N m F) = z := ⟨_, rfl⟩
      obtain ⟨vl, hvl⟩ : ∃ z, dxL (setsL N m F) = z := ⟨_, rfl⟩
      obtain ⟨vc, hvc⟩ : ∃ z, dxC (setsL N m F) = z := ⟨_, rfl⟩
      rw [hvn, hvl, hvc] at V VE VM
      have ZD : Hid (∀ d, (w2.drewN d).heap.size = B + 2 ∧ Below (B + 2) w2 (w2.drewN d)) := fun d => ⟨z2, below_drewN (Below.refl _ _) d⟩
      have ZZ : Hid (w2.heap.size = B + 2) := z2
      clear hp hv A1 A2 b1 b12 b2 K hF hm R2 hk hk2 hvn hvl hvc D c0 c1
      go_enter Tryd.func28, Tryd.ntmps28
      go_wp2_with fail
      try rw [hw1]
      try rw [hw2]
      refine HO.out.mono ?_
      rintro e w3 ⟨rfl, d, rfl⟩
      obtain ⟨z4, b4⟩ := ZD.out d
      obtain ⟨w4, hw4⟩ : ∃ w4, w2.drewN d = w4 := ⟨_, rfl⟩
      rw [hw4] at z4 b4 ⊢
      obtain ⟨c0, c1⟩ := DC.out w4 b4
      clear hw4 hw1 hw2
      go_wp2_with fail
      refine (HIn.out w4).mono ?_
      rintro e w5 ⟨rfl, rfl⟩
      have M0 : Hid (RowsL (w4.alloc (.cells #[] 47)) (B + 2) (w4.alloc (.cells #[] 47)).heap.size (.slice (some ⟨w4.heap.size, 0, none⟩) 0 0) (setsL 0 m F)) := by
        have := RowsL.made w4 (B + 2) 0 #[] (by omega) (by decide) rfl
        rw [← World.size_alloc w4 (.cells #[] 47)] at this
        exact this
      have B3 : Hid (Below (B + 2) w2 (w4.alloc (.cells #[] 47))) := b4.alloc (by omega) _
      clear c0 c1 hB
      obtain ⟨w3, hw3⟩ : ∃ w3, w4.alloc (.cells #[] 47) = w3 := ⟨_, rfl⟩
      rw [hw3, z4] at M0
      rw [hw3] at B3
      go_wp2
      try rw [hw3]
      clear hw3
      go_loopw [4, 5] (fun rv i wr => ∃ x : Nat, x ≤ N ∧ i = .int .i64 x ∧ Hid (RowsL wr (B + 2) wr.heap.size rv (setsL x m F)) ∧ Hid (Below (B + 2) w2 wr) ∧ Hid (∀ k, k < x → fls m (F k) ≠ [])) (fun _ i _ => N - (intOf i).toNat)
      case atStart => exact ⟨0, by omega, rfl, M0, B3, fun k hk => by omega⟩
      case round =>
        obtain ⟨x, hx, rfl, hR, hBl, hNE⟩ := hrel
        obtain ⟨c0, c1⟩ := DC.out wr hBl.out
        by_cases cx : x < N
        · have k1 : decide (x < N) = true := by simpa using cx
          have k1' : decide ((x : Int) < (N : Int)) = true := decide_eq_true (by omega)
          have w4 := IntWalk.i64_in ((x : Int) + 1) (by omega)
          have gx := GL.out x
          have SX := Lib.hid (GS.out x)
          have VX := Lib.hid (VE.out x cx)
          have bz : B + 2 ≤ wr.heap.size := by have := hBl.out.size; have := ZZ.out; omega
          obtain ⟨b, hb⟩ : ∃ b, wr.heap.size = b := ⟨_, rfl⟩
          rw [hb] at bz hR
          have I0 : Hid (Ints (wr.alloc (.cells #[] 2)) b (.slice (some ⟨b, 0, none⟩) 0 0) (fls 0 (F x))) := by
            rw [← hb]; exact World.ownsRow_made wr #[] 0 (Nat.le_refl _) (by decide) rfl
          have B4 : Hid (Below b wr (wr.alloc (.cells #[] 2))) := by unfold Hid; rw [← hb]; exact (Below.refl _ _).alloc (Nat.le_refl _) _
          obtain ⟨wq, rfl⟩ : ∃ wq : World, wq = wr := ⟨_, rfl⟩
          obtain ⟨w5, hw5⟩ : ∃ w5, wq.alloc (.cells #[] 2) = w5 := ⟨_, rfl⟩
          rw [hw5] at I0 B4
          have NX : Hid (∀ W2, Below b wq W2 → RowsL W2 (B + 2) b u4 (setsL x m F) ∧ Below (B + 2) w2 W2 ∧ b ≤ W2.heap.size) := fun W2 h => ⟨hR.out.below h (Nat.le_of_eq hb), hBl.out.trans (h.mono bz), by have := h.size; omega⟩
          go_wp2
          try rw [hw5]
          try rw [hb]
          clear c0 c1 hw5 hb
          go_loopw [6, 7] (fun rv i w6 => ∃ j : Nat, j ≤ m ∧ i = .int .i64 j ∧ Hid (Ints w6 b rv (fls j (F x))) ∧ Hid (Below b wq w6)) (fun _ i _ => m - (intOf i).toNat)
          case atStart => exact ⟨0, by omega, rfl, I0, B4⟩
          case round =>
            obtain ⟨j, hj, rfl, hI, hB6⟩ := hrel
            obtain ⟨NR, NB, nz⟩ := NX.out wr hB6.out
            obtain ⟨c0, c1⟩ := DC.out wr NB
            by_cases cj : j < m
            · have k3 : decide (j < m) = true := by simpa using cj
              have k3' : decide ((j : Int) < (m : Int)) = true := decide_eq_true (by omega)
              have w5 := IntWalk.i64_in ((j : Int) + 1) (by omega)
              have j0 : (0 : Int) ≤ (j : Int) := by omega
              have j1 : (j : Int) < (m : Int) := by omega
              obtain ⟨g1, o1, ur, rfl, e2, hc⟩ := HK.out wr (BW.out wr NB) j cj
              have h1 := Lib.hid (hc x)
              have RX := RS.out x j
              have lj := RL.out x j
              have LJ : (fls j (F x)).length < 1000000000000 := by omega
              obtain ⟨b1, hb1⟩ : ∃ q, F x j = q := ⟨_, rfl⟩
              rw [hb1] at h1 RX
              clear hc hb1 NR NB lj
              cases b1 with
              | false =>
                have RX2 : Hid (fls (j + 1) (F x) = fls j (F x)) := by unfold Hid; rw [RX]; simp
                clear RX
                go_wp2_with fail
                refine h1.out.mono ?_
                rintro e w9 ⟨rfl, rfl⟩
                go_wp2
                go_roundw
                case rel => exact ⟨j + 1, by omega, by go_num, by unfold Hid; rw [RX2.out]; exact hI.out, hB6⟩
                case measure => simp [intOf]; omega
              | true =>
                have RX2 : Hid (fls (j + 1) (F x) = fls j (F x) ++ [(j : Int)]) := by unfold Hid; rw [RX]; simp
                clear RX
                go_wp2_with fail
                refine h1.out.mono ?_
                rintro e w9 ⟨rfl, rfl⟩
                go_wp2_with (at_builtin; refine wpList_push wr (by rfl) _ _ (by rfl) b _ _ (by rfl) hI.out (j : Int) _ (by rfl) LJ nz ?_; intro v' w8 hn hb; have HN := Lib.hid hn; have HB8 := Lib.hid hb; clear hn hb)
                go_roundw
                case rel => exact ⟨j + 1, by omega, by go_num, by unfold Hid; rw [RX2.out]; exact HN.out, hB6.out.trans HB8.out⟩
                case measure => simp [intOf]; omega
            · have k3 : decide (j < m) = false := by simpa using cj
              have k3' : decide ((j : Int) < (m : Int)) = false := decide_eq_false (by omega)
              obtain rfl : j = m := by omega
              have NR2 := Lib.hid NR
              have NB2 := Lib.hid NB
              obtain ⟨ra, rc, hra⟩ := hI.out.len_eq
              obtain ⟨l, hl⟩ : ∃ l, (fls j (F x)).length = l := ⟨_, rfl⟩
              rw [hl] at hra
              subst hra
              have lj := RL.out x j
              rw [hl] at lj
              obtain ⟨va, vc', rfl⟩ : ∃ a c, u4 = .slice a x c := by
                obtain ⟨a, c, h, -⟩ := NR.at.shape; rw [gx] at h; exact ⟨a, c, h⟩
              have gl : (setsL x j F).length < 1000000000 := by omega
              have bB : B + 2 ≤ b := bz
              have RX := Lib.hid (RW.out wr NB)
              have BX := Lib.hid (BW.out wr NB)
              clear NR NB
              by_cases zl : l = 0
              · have q1 : ((l : Int) == 0) = true := by simp; omega
                have q2 : (l == 0) = true := by simp; omega
                have VV := Lib.hid (VX.out (List.length_eq_zero_iff.1 (by omega)))
                have V : Hid (DualDesign_N (N : Int) xss = 0 ∧ DualDesign_L (N : Int) xss = [] ∧ DualDesign_C (N : Int) xss = 6) := ⟨V.out.1.trans VV.out.1, V.out.2.1.trans VV.out.2.1, V.out.2.2.trans VV.out.2.2⟩
                subst zl
                clear hl lj
                have f0 := frozen_of_row wr (B + 1) 0 _ _ RX.out
                have f1 := frozen_of_row wr (B + 1) 1 _ _ RX.out
                have d0 : wr.cell? ⟨B + 1, 0, none⟩ = some (.int .i64 0) := by rw [cell_of_row wr (B + 1) 0 _ _ _ RX.out]; rfl
                have d1 : wr.cell? ⟨B + 1, 1, none⟩ = some (.slice none 0 0) := by rw [cell_of_row wr (B + 1) 1 _ _ _ RX.out]; rfl
                go_wp2
                have R9 := set2_row wr (B + 1) _ _ (.int .i64 0) (.slice none 0 0) _ RX.out
                have B9 := (BX.out.setCell (p := ⟨B + 1, 0, none⟩) (by simp only; omega) (.int .i64 0)).setCell (p := ⟨B + 1, 1, none⟩) (by simp only; omega) (.slice none 0 0)
                have hld := run_loadVar_row (P := Tryd.prog) _ _ 30 30 #[.int .i64 0, .slice none 0 0] (0, 0) _ R9 Tryd.underlying30 rfl Tryd.infoDes
                refine bodyPost_ret (v := .tuple #[.agg #[.int .i64 0, .slice none 0 0], .int .i64 6]) ?_ rfl ⟨_, by rw [V.out.1, V.out.2.2], ?_, by rw [HB.out]; exact B9⟩
                · rw [results_cell_tmp rfl]
                  simp [asAddr, Result.andThen, hld]
                · rw [V.out.2.1]; exact RowsL.nil _ _ _ (Nat.le_refl _)
              · have q1 : ((l : Int) == 0) = false := by simp; omega
                have q2 : (l == 0) = false := by simp; omega
                have NE2 : Hid (∀ k, k < x + 1 → fls j (F k) ≠ []) := fun k hk => by
                  by_cases e : k = x
                  · rw [e]; intro h; rw [h] at hl; simp at hl; omega
                  · exact hNE.out k (by omega)
                clear hl lj
                go_wp2_with (at_builtin; refine wpList_pushR wr (by rfl) _ _ (by rfl) (B + 2) b _ _ _ _ (by rfl) NR2.out hI.out _ (by rfl) gl bB ?_; intro v' w8 hn hb; have HN := Lib.hid hn; have HB8 := Lib.hid hb; clear hn hb)
                go_roundw
                case rel => exact ⟨x + 1, by omega, by go_num, by unfold Hid; rw [SX.out]; exact HN.out, NB2.out.trans HB8.out, NE2⟩
                case measure => simp [intOf]; omega
        · have k1 : decide (x < N) = false := by simpa using cx
          have k1' : decide ((x : Int) < (N : Int)) = false := decide_eq_false (by omega)
          obtain rfl : x = N := by omega
          have VM2 := Lib.hid (VM.out hNE.out)
          obtain ⟨va, vc', rfl, -⟩ := hR.out.at.shape
          have HM2 := Lib.hid (HM.out wr _ hR.out.at)
          rw [VM2.out.1, VM2.out.2.1, VM2.out.2.2] at HM2
          have sz : B + 2 ≤ wr.heap.size := by have := hBl.out.size; have := ZZ.out; omega
          have sW : W.heap.size ≤ wr.heap.size := by have := HB.out; omega
          go_wp2_with fail
          refine HM2.out.mono ?_
          rintro e w9 ⟨z, rfl, hL, b9⟩
          have RX : Hid (w9.heap[B + 1]? = some (.cells #[.int .i64 0, .slice none 0 0] 30 (0, 0))) := (b9.block (B + 1) (by omega)).trans (RW.out wr hBl.out)
          have BX : Hid (Below B W w9) := (BW.out wr hBl.out).trans (b9.mono (by omega))
          obtain ⟨ay, ly, cy, rfl⟩ : ∃ a l c, z = .slice a l c := by obtain ⟨a, c, e, -⟩ := hL.at.shape; exact ⟨a, _, c, e⟩
          have LX := Lib.hid hL
          obtain ⟨qn, hqn⟩ : ∃ q, vn = q := ⟨_, rfl⟩
          obtain ⟨qc, hqc⟩ : ∃ q, vc = q := ⟨_, rfl⟩
          subst hqn hqc
          clear hL b9 c0 c1
          have f0 := frozen_of_row w9 (B + 1) 0 _ _ RX.out
          have f1 := frozen_of_row w9 (B + 1) 1 _ _ RX.out
          have d0 : w9.cell? ⟨B + 1, 0, none⟩ = some (.int .i64 0) := by rw [cell_of_row w9 (B + 1) 0 _ _ _ RX.out]; rfl
          have d1 : w9.cell? ⟨B + 1, 1, none⟩ = some (.slice none 0 0) := by rw [cell_of_row w9 (B + 1) 1 _ _ _ RX.out]; rfl
          go_wp2
          have R9 := set2_row w9 (B + 1) _ _ (.int .i64 vn) (.slice ay ly cy) _ RX.out
          have B9 := (BX.out.setCell (p := ⟨B + 1, 0, none⟩) (by simp only; omega) (.int .i64 vn)).setCell (p := ⟨B + 1, 1, none⟩) (by simp only; omega) (.slice ay ly cy)
          have L9 := RowsL.off2 LX.out (show B + 1 < wr.heap.size by omega) (.int .i64 vn) (.slice ay ly cy)
          have hld := run_loadVar_row (P := Tryd.prog) _ _ 30 30 #[.int .i64 vn, .slice ay ly cy] (0, 0) _ R9 Tryd.underlying30 rfl Tryd.infoDes
          refine bodyPost_ret (v := .tuple #[.agg #[.int .i64 vn, .slice ay ly cy], .int .i64 vc]) ?_ rfl ⟨_, by rw [V.out.1, V.out.2.2], ?_, by rw [HB.out]; exact B9⟩
          · rw [results_cell_tmp rfl]
            simp [asAddr, Result.andThen, hld]
          · rw [V.out.2.1]; exact L9.mono (by omega) (by simp [World.setCell]) (Nat.le_refl _)
    · have V := Lib.hid (dual_range hp (by rw [hm]; exact hk))
      have hk2 : ¬ (1 ≤ (m : Int) ∧ (m : Int) ≤ 32) := by omega
      rw [decide_eq_false hk2] at HIn
      clear hp hv A1 A2 b1 b12 b2 K R2 hk hk2 D
      go_enter Tryd.func28, Tryd.ntmps28
      go_wp2_with fail
      try rw [hw1]
      try rw [hw2]
      refine HO.out.mono ?_
      rintro e w3 ⟨rfl, d, rfl⟩
      have RX : Hid ((w2.drewN d).heap[B + 1]? = some (.cells #[.int .i64 0, .slice none 0 0] 30 (0, 0))) := HR.out
      have BX : Hid (Below B W (w2.drewN d)) := below_drewN B2.out d
      obtain ⟨c0, c1⟩ := DC.out (w2.drewN d) (below_drewN (Below.refl _ _) d)
      obtain ⟨w4, hw4⟩ : ∃ W, w2.drewN d = W := ⟨_, rfl⟩
      rw [hw4] at RX BX c0 c1 ⊢
      clear hw4
      go_wp2_with fail
      refine (HIn.out w4).mono ?_
      rintro e w5 ⟨rfl, rfl⟩
      have f0 := frozen_of_row w4 (B + 1) 0 _ _ RX.out
      have f1 := frozen_of_row w4 (B + 1) 1 _ _ RX.out
      have d0 : w4.cell? ⟨B + 1, 0, none⟩ = some (.int .i64 0) := by rw [cell_of_row w4 (B + 1) 0 _ _ _ RX.out]; rfl
      have d1 : w4.cell? ⟨B + 1, 1, none⟩ = some (.slice none 0 0) := by rw [cell_of_row w4 (B + 1) 1 _ _ _ RX.out]; rfl
      go_wp2
      have R9 := set2_row w4 (B + 1) _ _ (.int .i64 0) (.slice none 0 0) _ RX.out
      have B9 := (BX.out.setCell (p := ⟨B + 1, 0, none⟩) (by simp only; omega) (.int .i64 0)).setCell (p := ⟨B + 1, 1, none⟩) (by simp only; omega) (.slice none 0 0)
      have hld := run_loadVar_row (P := Tryd.prog) _ _ 30 30 #[.int .i64 0, .slice none 0 0] (0, 0) _ R9 Tryd.underlying30 rfl Tryd.infoDes
      refine bodyPost_ret (v := .tuple #[.agg #[.int .i64 0, .slice none 0 0], .int .i64 2]) ?_ rfl ⟨_, by rw [V.out.1, V.out.2.2], ?_, by rw [HB.out]; exact B9⟩
      · rw [results_cell_tmp rfl]
        simp [asAddr, Result.andThen, hld]
      · rw [V.out.2.1]; exact RowsL.nil _ _ _ (Nat.le_refl _)
end Go.Proofs.YtpckbhelnoeifaaDoor
