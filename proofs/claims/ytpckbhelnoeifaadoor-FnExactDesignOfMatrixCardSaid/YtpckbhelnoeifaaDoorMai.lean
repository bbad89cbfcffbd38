/- DesignOfMatrix: the program's. -/
import Derived.Test.YtpckbhelnoeifaaDoorMam
import Derived.StillTailTactics
namespace Go.Proofs.YtpckbhelnoeifaaDoor
open Go.RowKit Go.Shelf
set_option linter.unusedVariables false
set_option linter.unusedSimpArgs false

/-- The columns' sets when y columns of the row x are read. -/
def BitsM (xss : List (List Int)) (M x y : Nat) (S : Nat → Nat) : Prop := ∀ k, k < M → S k < 4294967296 ∧ ∀ i, (S k).testBit i = (decide (i < x ∨ (i = x ∧ k < y)) && maP xss k i)
theorem BitsM.zero (xss : List (List Int)) (M : Nat) : BitsM xss M 0 0 (fun _ => 0) := fun k hk => ⟨by simp only; omega, fun i => by simp only; rw [Nat.zero_testBit, decide_eq_false (by omega)]; rfl⟩
theorem BitsM.row {xss : List (List Int)} {M x : Nat} {S : Nat → Nat} (h : BitsM xss M x M S) : BitsM xss M (x + 1) 0 S := fun k hk => ⟨(h k hk).1, fun i => by
  rw [(h k hk).2 i]
  by_cases c : i < x + 1
  · rw [decide_eq_true (show i < x ∨ (i = x ∧ k < M) by omega), decide_eq_true (show i < x + 1 ∨ (i = x + 1 ∧ k < 0) by omega)]
  · rw [decide_eq_false (show ¬ (i < x ∨ (i = x ∧ k < M)) by omega), decide_eq_false (show ¬ (i < x + 1 ∨ (i = x + 1 ∧ k < 0)) by omega)]⟩
theorem BitsM.no {xss : List (List Int)} {M x y : Nat} {S : Nat → Nat} (h : BitsM xss M x y S) (e : maP xss y x = false) : BitsM xss M x (y + 1) S := fun k hk => ⟨(h k hk).1, fun i => by
  rw [(h k hk).2 i]
  by_cases c : i = x ∧ k = y
  · obtain ⟨rfl, rfl⟩ := c
    rw [e, Bool.and_false, Bool.and_false]
  · by_cases d : i < x ∨ (i = x ∧ k < y)
    · rw [decide_eq_true d, decide_eq_true (show i < x ∨ (i = x ∧ k < y + 1) by omega)]
    · rw [decide_eq_false d, decide_eq_false (show ¬ (i < x ∨ (i = x ∧ k < y + 1)) by omega)]⟩
theorem BitsM.yes {xss : List (List Int)} {M x y z : Nat} {S : Nat → Nat} (h : BitsM xss M x y S) (e : maP xss y x = true) (hz : OpOut (fun a b => a || b) (S y) (2 ^ x) z) (hy : y < M) : BitsM xss M x (y + 1) (updN S y z) := fun k hk => by
  unfold updN
  by_cases c : k = y
  · subst c
    rw [if_pos rfl]
    refine ⟨hz.1, fun i => ?_⟩
    rw [hz.2 i, (h k hk).2 i, Nat.testBit_two_pow]
    by_cases d : i = x
    · subst d
      rw [e]; simp
    · rw [decide_eq_false (show ¬ x = i by omega)]
      by_cases d2 : i < x
      · rw [decide_eq_true (show i < x ∨ (i = x ∧ k < k) by omega), decide_eq_true (show i < x ∨ (i = x ∧ k < k + 1) by omega)]; simp
      · rw [decide_eq_false (show ¬ (i < x ∨ (i = x ∧ k < k)) by omega), decide_eq_false (show ¬ (i < x ∨ (i = x ∧ k < k + 1)) by omega)]; simp
  · rw [if_neg c]
    refine ⟨(h k hk).1, fun i => ?_⟩
    rw [(h k hk).2 i]
    by_cases d : i < x ∨ (i = x ∧ k < y)
    · rw [decide_eq_true d, decide_eq_true (show i < x ∨ (i = x ∧ k < y + 1) by omega)]
    · rw [decide_eq_false d, decide_eq_false (show ¬ (i < x ∨ (i = x ∧ k < y + 1)) by omega)]
theorem maP_eq {xss : List (List Int)} {y x : Nat} {z : Int} (h : (xss.getD x []).getD y 0 = z) : maP xss y x = decide (z = 1) := by unfold maP; rw [h]

theorem iunionE (x y : Nat) (w : World) (hx : x < 4294967296) (hy : y < 4294967296) :
    Calls Tryd.prog 97 #[.int .u32 x, .int .u32 y] w fun e w' => e = .returned (.int .u32 ((x ||| y : Nat) : Int)) ∧ w' = w := by
  refine (iunion x y w hx hy).mono ?_
  rintro e w' ⟨z, rfl, hz, rfl⟩
  have : z = x ||| y := Nat.eq_of_testBit_eq fun i => by rw [hz.2 i, Nat.testBit_or]
  exact ⟨by rw [this], rfl⟩
theorem or_out (x y : Nat) (hx : x < 4294967296) (hy : y < 4294967296) : OpOut (fun a b => a || b) x y (x ||| y) := ⟨Nat.or_lt_two_pow (n := 32) (by omega) (by omega), fun i => by rw [Nat.testBit_or]⟩

set_option maxRecDepth 100000 in
set_option maxHeartbeats 4000000 in
theorem iCols (xss : List (List Int)) (W : World) (v : Value) (hv : RowsAt W v xss) :
    Calls Tryd.prog 69 #[v] W fun e w' => ∃ z, e = .returned (.tuple #[z, .bool (matB xss)]) ∧ (matB xss = true → ∃ g S, z = .slice (some ⟨g, 0, none⟩) (xss.getD 0 []).length (xss.getD 0 []).length ∧ W.heap.size ≤ g ∧ Ub w' g (xss.getD 0 []).length S ∧ BitsM xss (xss.getD 0 []).length xss.length 0 S) ∧ (matB xss = false → z = .slice none 0 0) ∧ Below W.heap.size W w' := by
  have hml := hv.1
  obtain ⟨a, cap, rfl, K⟩ := hv.shape
  obtain ⟨N, hN⟩ : ∃ m, xss.length = m := ⟨_, rfl⟩
  rw [hN] at hml K ⊢
  obtain ⟨B, hB⟩ : ∃ B, W.heap.size = B := ⟨_, rfl⟩
  have HB := Lib.hid hB
  have wN := IntWalk.i64_in (N : Int) (by omega)
  obtain ⟨M, hM⟩ : ∃ M, (xss.getD 0 []).length = M := ⟨_, rfl⟩
  rw [hM]
  have NOT : Hid ((1 ≤ N ∧ N ≤ 32 ∧ M ≤ 128 → ∃ i, i < N ∧ ¬ mxRow M (xss.getD i [])) → matB xss = false) := fun h => matB_false fun k => by
    have k1 := k.1; have k2 := k.2.1; have k3 := k.2.2.1
    rw [hN] at k1 k2
    rw [hM] at k3
    obtain ⟨i, hi, e⟩ := h ⟨k1, k2, k3⟩
    have := k.2.2.2 i (by omega)
    rw [hM] at this
    exact e this
  have YES : Hid (1 ≤ N ∧ N ≤ 32 ∧ M ≤ 128 ∧ (∀ i, i < N → mxRow M (xss.getD i [])) → matB xss = true) := fun h =>
    matB_true ⟨by rw [hN]; exact h.1, by rw [hN]; exact h.2.1, by rw [hM]; exact h.2.2.1, fun i hi => by rw [hM]; exact h.2.2.2 i (by omega)⟩
  have B0 : Hid (Below B W W) := Below.refl _ _
  by_cases hr : 1 ≤ N ∧ N ≤ 32 ∧ M ≤ 128
  · have t1 : decide ((N : Int) < 1) = false := decide_eq_false (by omega)
    have t2 : decide (N < 1) = false := decide_eq_false (by omega)
    have t3 : decide ((32 : Int) < (N : Int)) = false := decide_eq_false (by omega)
    have t4 : decide (32 < N) = false := decide_eq_false (by omega)
    have t5 : decide ((128 : Int) < (M : Int)) = false := decide_eq_false (by omega)
    have t6 : decide (128 < M) = false := decide_eq_false (by omega)
    have N1 : 1 ≤ N := hr.1
    have N32 : N ≤ 32 := hr.2.1
    have M8 : M ≤ 128 := hr.2.2
    obtain ⟨g1, o1, u0, rfl, e0, q0⟩ := K 0 (by omega)
    obtain ⟨ua, uc, rfl, -, -⟩ := q0.shape
    have e20 : W.cell? ⟨g1, o1, none⟩ = some (.slice ua M uc) := by rw [Nat.add_zero, hM] at e0; exact e0
    have KG : Hid (∀ j, j < N → ∃ ua uc, ∀ W2, Below B W W2 → W2.cell? ⟨g1, o1 + j, none⟩ = some (.slice ua (xss.getD j []).length uc) ∧ IntsAt W2 (.slice ua (xss.getD j []).length uc) (xss.getD j [])) := fun j hj => by
      obtain ⟨g3, o3, u, h0, e2, e3⟩ := K j hj
      injection h0 with h0
      injection h0 with h1 h2
      subst h1 h2
      obtain ⟨ua, uc, rfl, -, -⟩ := e3.shape
      exact ⟨ua, uc, fun W2 hW => ⟨(hW.cell (p := ⟨g1, o1 + j, none⟩) (by rw [← HB.out]; exact World.block_lt_of_cell? W _ e2)).trans e2, e3.below hW (Nat.le_of_eq HB.out)⟩⟩
    have x2 : (0 : Int) < (N : Int) := by omega
    have x3 : 0 < N := by omega
    have hmk := run_make_row' (P := Tryd.prog) 59 72 (.int .u32 0) 4 Tryd.underlying59 Tryd.infoSet rfl .i64 .i64 M (by omega) (by omega) W
    have b5 : Below B W (W.alloc (.cells (madeCells #[.int .u32 0] M) 72)) := (Below.refl _ _).alloc (Nat.le_of_eq hB.symm) _
    have U5 : Ub (W.alloc (.cells (madeCells #[.int .u32 0] M) 72)) B M (fun _ => 0) := by unfold Ub; rw [made_uar, ← hB]; exact (heap_alloc_new _ _).trans (by congr 1)
    clear K hv hr e0 q0
    go_enter Tryd.func69, Tryd.ntmps69
    go_wp2
    obtain ⟨w5, hw5⟩ : ∃ w5, W.alloc (.cells (madeCells #[.int .u32 0] M) 72) = w5 := ⟨_, rfl⟩
    rw [hw5] at b5 U5 ⊢
    have HU5 := Lib.hid U5
    have HB5 := Lib.hid b5
    have BZ : Hid (BitsM xss M 0 0 (fun _ => 0)) := BitsM.zero xss M
    clear hw5 U5 b5 hB e20 hmk
    go_loopw [31] (fun i wr => ∃ x : Nat, x ≤ N ∧ i = .int .i64 x ∧ Hid (∀ j, j < x → mxRow M (xss.getD j [])) ∧ Hid (Below B W wr) ∧ ∃ S, Hid (Ub wr B M S) ∧ Hid (BitsM xss M x 0 S)) (fun i _ => N - (intOf i).toNat)
    case atStart => exact ⟨0, by omega, rfl, fun j hj => by omega, HB5, _, HU5, BZ⟩
    case round =>
      obtain ⟨x, hx, rfl, hRw, hBl, S, hU, hS⟩ := hrel
      by_cases cx : x < N
      · have k1 : decide (x < N) = true := by simpa using cx
        have k1' : decide ((x : Int) < (N : Int)) = true := decide_eq_true (by omega)
        have wx := IntWalk.i64_in ((x : Int) + 1) (by omega)
        have wx' := IntWalk.i64_in (x : Int) (by omega)
        have x0 : (0 : Int) ≤ (x : Int) := by omega
        have x1 : (x : Int) < (N : Int) := by omega
        obtain ⟨va, vc, hK⟩ := KG.out x cx
        have HK := Lib.hid hK
        have e2 := (hK wr hBl.out).1
        clear hK
        obtain ⟨l, hl⟩ : ∃ l, (xss.getD x []).length = l := ⟨_, rfl⟩
        rw [hl] at e2 HK
        by_cases q : l = M
        · subst q
          have q1 : ((l : Int) != (l : Int)) = false := by simp
          have q2 : (l != l) = false := by simp
          go_wp2
          go_loopw [43] (fun i w6 => ∃ y : Nat, y ≤ l ∧ i = .int .i64 y ∧ Hid (∀ j, j < y → (xss.getD x []).getD j 0 = 0 ∨ (xss.getD x []).getD j 0 = 1) ∧ Hid (Below B W w6) ∧ ∃ S, Hid (Ub w6 B l S) ∧ Hid (BitsM xss l x y S)) (fun i _ => l - (intOf i).toNat)
          case atStart => exact ⟨0, by omega, rfl, fun j hj => by omega, hBl, S, hU, hS⟩
          case round =>
            clear e2 hU hS hBl
            obtain ⟨y, hy, rfl, hCl, hBl, S, hU, hS⟩ := hrel
            by_cases cy : y < l
            · have k2 : decide (y < l) = true := by simpa using cy
              have k2' : decide ((y : Int) < (l : Int)) = true := decide_eq_true (by omega)
              have wy := IntWalk.i64_in ((y : Int) + 1) (by omega)
              have y0 : (0 : Int) ≤ (y : Int) := by omega
              have y1 : (y : Int) < (l : Int) := by omega
              obtain ⟨g2, o2, rfl, e3⟩ := (HK.out wr hBl.out).2.atIn (j := y) (by omega)
              have EP := Lib.hid (fun z (h : (xss.getD x []).getD y 0 = z) => maP_eq h)
              obtain ⟨z, hz⟩ : ∃ z, (xss.getD x []).getD y 0 = z := ⟨_, rfl⟩
              rw [hz] at e3
              by_cases cz : 0 ≤ z ∧ z ≤ 1
              · have z1 : decide (z < 0) = false := decide_eq_false (by omega)
                have z2 : decide (z > 1) = false := decide_eq_false (by omega)
                have z3 : decide (1 < z) = false := decide_eq_false (by omega)
                have CL2 : Hid (∀ j, j < y + 1 → (xss.getD x []).getD j 0 = 0 ∨ (xss.getD x []).getD j 0 = 1) := fun j hj => by
                  by_cases e : j = y
                  · subst e; omega
                  · exact hCl.out j (by omega)
                by_cases ce : z = 1
                · have ze : (z == 1) = true := by simp; exact ce
                  have EY : maP xss y x = true := by rw [EP.out z hz, decide_eq_true ce]
                  have HSP := Lib.hid (fun W' => isingle x (by omega) W')
                  have hx2 : 2 ^ x < 4294967296 := by
                    have : 2 ^ x < 2 ^ 32 := Nat.pow_lt_pow_right (by omega) (by omega)
                    omega
                  have HUN := Lib.hid (fun W' => iunionE (S y) (2 ^ x) W' (hS.out y cy).1 hx2)
                  have hz' := or_out (S y) (2 ^ x) (hS.out y cy).1 hx2
                  have F2 := Lib.hid (hS.out.yes EY hz' cy)
                  obtain ⟨wd, hwd⟩ : ∃ wd, wr.drew = wd := ⟨_, rfl⟩
                  have hUd : Hid (Ub wd B l S) := by rw [← hwd]; exact hU.out
                  have F1 : Hid (Ub (wd.setCell ⟨B, y, none⟩ (.int .u32 ((S y ||| 2 ^ x : Nat) : Int))) B l (updN S y (S y ||| 2 ^ x))) := hUd.out.set y _
                  have hBd : Hid (Below B W wd) := by rw [← hwd]; exact hBl.out.drew
                  have F3 := Lib.hid (hBd.out.setCell (p := ⟨B, y, none⟩) (Nat.le_refl B) (.int .u32 ((S y ||| 2 ^ x : Nat) : Int)))
                  have mm := hUd.out.cell y cy
                  have rr := hUd.out.frozen y
                  have m0 : wr.cell? ⟨B, y, none⟩ = some (.int .u32 (S y : Nat)) := by rw [← hwd] at mm; exact mm
                  obtain ⟨S', hS'⟩ : ∃ S', updN S y (S y ||| 2 ^ x) = S' := ⟨_, rfl⟩
                  rw [hS'] at F1 F2
                  obtain ⟨s, hs⟩ : ∃ s, S y = s := ⟨_, rfl⟩
                  obtain ⟨p2, hp2⟩ : ∃ s, 2 ^ x = s := ⟨_, rfl⟩
                  rw [hs] at mm m0
                  rw [hs, hp2] at HUN F1 F3
                  rw [hp2] at HSP
                  obtain ⟨zz, hzz⟩ : ∃ z, s ||| p2 = z := ⟨_, rfl⟩
                  rw [hzz] at HUN F1 F3
                  obtain ⟨w8, hw8⟩ : ∃ w8, wd.setCell ⟨B, y, none⟩ (.int .u32 (zz : Nat)) = w8 := ⟨_, rfl⟩
                  rw [hw8] at F1 F3
                  clear hs hp2 hx2 hUd hz ce cz EY EP hz' hS' hzz hBd
                  go_upto_region 15 with fail
                  refine wp_region_still_tail 10 (by kernel_rfl) (by kernel_rfl) ?_
                  simp only [List.take_succ_cons, List.take_zero, List.drop_succ_cons, List.drop_zero]
                  change wpStill _ _ wr.drew _ _ _
                  rw [hwd]
                  repeat still_step
                  still_call (HSP.out _)
                  still_call (HUN.out _)
                  repeat still_step
                  refine wpStill_nil ?_
                  change wpList _ _ _ _ _ wr.drew
                  rw [hwd]
                  go_wp2
                  try rw [hw8]
                  go_roundw
                  case rel => exact ⟨y + 1, by omega, by go_num, CL2, F3, _, F1, F2⟩
                  case measure => simp [intOf]; omega
                · have ze : (z == 1) = false := by simp; exact ce
                  have EY : maP xss y x = false := by rw [EP.out z hz, decide_eq_false ce]
                  have F2 : Hid (BitsM xss l x (y + 1) S) := hS.out.no EY
                  clear hz ce cz EY EP
                  go_wp2
                  go_roundw
                  case rel => exact ⟨y + 1, by omega, by go_num, CL2, hBl, S, hU, F2⟩
                  case measure => simp [intOf]; omega
              · have V := Lib.hid (NOT.out fun k => ⟨x, cx, fun h => by have := h.2 y cy; omega⟩)
                by_cases c0 : z < 0
                · have z1 : decide (z < 0) = true := decide_eq_true c0
                  clear hz cz c0
                  go_wp2
                  go_ret2
                  exact ⟨.slice none 0 0, by rw [V.out]; rfl, fun h => by rw [V.out] at h; simp at h, fun _ => rfl, by rw [HB.out]; exact hBl.out⟩
                · have z1 : decide (z < 0) = false := decide_eq_false c0
                  have z2 : decide (z > 1) = true := decide_eq_true (by omega)
                  have z3 : decide (1 < z) = true := decide_eq_true (by omega)
                  clear hz cz c0
                  go_wp2
                  go_ret2
                  exact ⟨.slice none 0 0, by rw [V.out]; rfl, fun h => by rw [V.out] at h; simp at h, fun _ => rfl, by rw [HB.out]; exact hBl.out⟩
            · have k2 : decide (y < l) = false := by simpa using cy
              have k2' : decide ((y : Int) < (l : Int)) = false := decide_eq_false (by omega)
              obtain rfl : y = l := by omega
              have RR2 : Hid (∀ j, j < x + 1 → mxRow y (xss.getD j [])) := fun j hj => by
                by_cases e : j = x
                · subst e; exact ⟨hl, hCl.out⟩
                · exact hRw.out j (by omega)
              have S2 : Hid (BitsM xss y (x + 1) 0 S) := hS.out.row
              clear hl
              go_wp2
              go_roundw
              case rel => exact ⟨x + 1, by omega, by go_num, RR2, hBl, S, hU, S2⟩
              case measure => simp [intOf]; omega
        · have q1 : ((l : Int) != (M : Int)) = true := by simp; omega
          have q2 : (l != M) = true := by simp; omega
          have V := Lib.hid (NOT.out fun k => ⟨x, cx, fun h => q (hl.symm.trans h.1)⟩)
          clear hl q
          go_wp2
          go_ret2
          exact ⟨.slice none 0 0, by rw [V.out]; rfl, fun h => by rw [V.out] at h; simp at h, fun _ => rfl, by rw [HB.out]; exact hBl.out⟩
      · have k1 : decide (x < N) = false := by simpa using cx
        have k1' : decide ((x : Int) < (N : Int)) = false := decide_eq_false (by omega)
        obtain rfl : x = N := by omega
        have V := Lib.hid (YES.out ⟨N1, N32, M8, hRw.out⟩)
        go_wp2
        go_ret2
        exact ⟨.slice (some ⟨B, 0, none⟩) M M, by rw [V.out]; rfl, fun _ => ⟨B, S, rfl, by rw [HB.out]; exact Nat.le_refl _, hU.out, hS.out⟩, fun h => by rw [V.out] at h; simp at h, by rw [HB.out]; exact hBl.out⟩
  · have V := Lib.hid (NOT.out fun k => absurd k hr)
    have B9 := Lib.hid B0
    by_cases r1 : N < 1
    · have t1 : decide ((N : Int) < 1) = true := decide_eq_true (by omega)
      have t2 : decide (N < 1) = true := decide_eq_true r1
      clear K hr r1
      go_enter Tryd.func69, Tryd.ntmps69
      go_wp2
      go_ret2
      exact ⟨.slice none 0 0, by rw [V.out]; rfl, fun h => by rw [V.out] at h; simp at h, fun _ => rfl, by rw [HB.out]; exact B9.out⟩
    by_cases r2 : 32 < N
    · have t1 : decide ((N : Int) < 1) = false := decide_eq_false (by omega)
      have t2 : decide (N < 1) = false := decide_eq_false r1
      have t3 : decide ((32 : Int) < (N : Int)) = true := decide_eq_true (by omega)
      have t4 : decide (32 < N) = true := decide_eq_true (by omega)
      clear K hr r1 r2
      go_enter Tryd.func69, Tryd.ntmps69
      go_wp2
      go_ret2
      exact ⟨.slice none 0 0, by rw [V.out]; rfl, fun h => by rw [V.out] at h; simp at h, fun _ => rfl, by rw [HB.out]; exact B9.out⟩
    obtain ⟨g1, o1, u0, rfl, e0, q0⟩ := K 0 (by omega)
    obtain ⟨ua, uc, rfl, -, -⟩ := q0.shape
    have e20 : W.cell? ⟨g1, o1, none⟩ = some (.slice ua M uc) := by rw [Nat.add_zero, hM] at e0; exact e0
    have t1 : decide ((N : Int) < 1) = false := decide_eq_false (by omega)
    have t2 : decide (N < 1) = false := decide_eq_false (by omega)
    have t3 : decide ((32 : Int) < (N : Int)) = false := decide_eq_false (by omega)
    have t4 : decide (32 < N) = false := decide_eq_false (by omega)
    have t5 : decide ((128 : Int) < (M : Int)) = true := decide_eq_true (by omega)
    have t6 : decide (128 < M) = true := decide_eq_true (by omega)
    have x2 : (0 : Int) < (N : Int) := by omega
    have x3 : 0 < N := by omega
    clear K hr r1 r2 e0 q0
    go_enter Tryd.func69, Tryd.ntmps69
    go_wp2
    go_ret2
    exact ⟨.slice none 0 0, by rw [V.out]; rfl, fun h => by rw [V.out] at h; simp at h, fun _ => rfl, by rw [HB.out]; exact B9.out⟩

set_option maxRecDepth 100000 in
set_option maxHeartbeats 4000000 in
theorem iDesignOfMatrix (xss : List (List Int)) (W : World) (v : Value) (hv : RowsAt W v xss) (ht : Tab W) :
    Calls Tryd.prog 42 #[v] W fun e w' => ∃ z, e = .returned (.tuple #[.agg #[.int .i64 (DesignOfMatrix_N xss), z], .int .i64 (DesignOfMatrix_C xss)]) ∧ RowsL w' W.heap.size w'.heap.size z (DesignOfMatrix_L xss) ∧ Below W.heap.size W w' := by
  have hml := hv.1
  obtain ⟨a, cap, rfl, -⟩ := hv.shape
  obtain ⟨N, hN⟩ : ∃ m, xss.length = m := ⟨_, rfl⟩
  obtain ⟨B, hB⟩ : ∃ B, W.heap.size = B := ⟨_, rfl⟩
  obtain ⟨w1, hw1⟩ : ∃ w1, W.alloc (.cells #[.int .i64 0, .slice none 0 0] 30) = w1 := ⟨_, rfl⟩
  have z1 : w1.heap.size = B + 1 := by rw [← hw1, World.size_alloc, hB]
  have b1 : Below B W w1 := by rw [← hw1]; exact (Below.refl _ _).alloc (by omega) _
  have R1 : w1.heap[B]? = some (.cells #[.int .i64 0, .slice none 0 0] 30 (0, 0)) := by rw [← hw1, ← hB]; exact heap_alloc_new _ _
  have hpos : 0 < B := by rw [← hB]; exact ht.pos
  have HO := Lib.hid (iCols xss w1 _ (hv.below b1 (Nat.le_of_eq hB)))
  rw [z1] at HO
  rw [hN] at hml HO ⊢
  have TB := Lib.hid ht
  have HB := Lib.hid hB
  have B1 := Lib.hid b1
  have HR := Lib.hid R1
  cases hp : matB xss with
  | false =>
    have V := Lib.hid (mat_no (xss := xss) fun h => by rw [matB_true h] at hp; cases hp)
    rw [hp] at HO
    clear hp hv b1 R1 ht
    go_enter Tryd.func42, Tryd.ntmps42
    go_wp2_with fail
    try rw [hw1]
    refine HO.out.mono ?_
    rintro e w4 ⟨z, rfl, -, hz, b4⟩
    obtain rfl := hz (by trivial)
    have s4 : B + 1 ≤ w4.heap.size := by have := b4.size; omega
    have RX : Hid (w4.heap[B]? = some (.cells #[.int .i64 0, .slice none 0 0] 30 (0, 0))) := (b4.block B (by omega)).trans HR.out
    have BX : Hid (Below B W w4) := B1.out.trans (b4.mono (by omega))
    clear b4
    have f0 := frozen_of_row w4 (B) 0 _ _ RX.out
    have f1 := frozen_of_row w4 (B) 1 _ _ RX.out
    have d0 : w4.cell? ⟨B, 0, none⟩ = some (.int .i64 0) := by rw [cell_of_row w4 (B) 0 _ _ _ RX.out]; rfl
    have d1 : w4.cell? ⟨B, 1, none⟩ = some (.slice none 0 0) := by rw [cell_of_row w4 (B) 1 _ _ _ RX.out]; rfl
    go_wp2
    have R9 := set2_row w4 (B) _ _ (.int .i64 0) (.slice none 0 0) _ RX.out
    have B9 := (BX.out.setCell (p := ⟨B, 0, none⟩) (by simp only; omega) (.int .i64 0)).setCell (p := ⟨B, 1, none⟩) (by simp only; omega) (.slice none 0 0)
    have hld := run_loadVar_row (P := Tryd.prog) _ _ 30 30 #[.int .i64 0, .slice none 0 0] (0, 0) _ R9 Tryd.underlying30 rfl Tryd.infoDes
    refine bodyPost_ret (v := .tuple #[.agg #[.int .i64 0, .slice none 0 0], .int .i64 1]) ?_ rfl ⟨_, by rw [V.out.1, V.out.2.2], ?_, by rw [HB.out]; exact B9⟩
    · rw [results_cell_tmp rfl]
      simp [asAddr, Result.andThen, hld]
    · rw [V.out.2.1]; exact RowsL.nil _ _ _ (Nat.le_refl _)
  | true =>
    have D := of_matB hp
    have V0 := Lib.hid (mat_yes D)
    obtain ⟨M, hM⟩ : ∃ M, (xss.getD 0 []).length = M := ⟨_, rfl⟩
    have n32 : N ≤ 32 := by have := D.2.1; omega
    have M8 : M ≤ 128 := by have := D.2.2.1; omega
    rw [hN, hM] at V0
    rw [hp, hM] at HO
    clear hp hv b1 R1 ht D
    go_enter Tryd.func42, Tryd.ntmps42
    go_wp2_with fail
    try rw [hw1]
    refine HO.out.mono ?_
    rintro e w4 ⟨z, rfl, hz, -, b4⟩
    obtain ⟨g, S, rfl, hg, hU, hS⟩ := hz (by trivial)
    have r4 : w4.heap[B]? = some (.cells #[.int .i64 0, .slice none 0 0] 30 (0, 0)) := (b4.block B (by omega)).trans HR.out
    have B4 := B1.out.trans (b4.mono (show B ≤ B + 1 by omega))
    have hS1 : ∀ i, i < M → S i < 4294967296 := fun i hi => (hS i hi).1
    have DX := dx_des (N : Int) hS1
    have PT : ptsL M S = setsL M N (maP xss) := ptsL_sets n32 fun k hk i => by
      rw [(hS k hk).2 i]
      by_cases c : i < N
      · rw [decide_eq_true c, decide_eq_true (show i < N ∨ (i = N ∧ k < 0) by omega)]
      · rw [decide_eq_false c, decide_eq_false (show ¬ (i < N ∨ (i = N ∧ k < 0)) by omega)]
    rw [PT] at DX
    have HDS := ides (N : Int) M g S (by omega) w4 hU hS1 (by omega) (TB.out.below B4 hpos)
    rw [DX.1, DX.2.1, DX.2.2] at HDS
    obtain ⟨qn, hqn⟩ : ∃ q, dxN (N : Int) (setsL M N (maP xss)) = q := ⟨_, rfl⟩
    obtain ⟨qc, hqc⟩ : ∃ q, dxC (setsL M N (maP xss)) = q := ⟨_, rfl⟩
    obtain ⟨ql, hql⟩ : ∃ q, dxL (setsL M N (maP xss)) = q := ⟨_, rfl⟩
    rw [hqn, hqc, hql] at HDS V0
    have V := V0
    have HDS := Lib.hid HDS
    have zsz : Hid (B < w4.heap.size) := (Array.getElem?_eq_some_iff.1 r4).1
    have r4 := Lib.hid r4
    have B4 := Lib.hid B4
    have wN := IntWalk.i64_in (N : Int) (by omega)
    clear DX hqn hqc hql PT hS hS1 hU b4 hw1
    go_wp2_with fail
    refine HDS.out.mono ?_
    rintro e w9 ⟨z, rfl, hL, hO⟩
    have zz := zsz.out
    have RX : Hid (w9.heap[B]? = some (.cells #[.int .i64 0, .slice none 0 0] 30 (0, 0))) := (hO.block B (by omega) (by omega)).trans r4.out
    have BX : Hid (Below B W w9) := ⟨hO.os.trans B4.out.os, hO.tape.trans B4.out.tape, hO.output.trans B4.out.output, Nat.le_trans B4.out.size hO.size, fun k hk => (hO.block k (by omega) (by omega)).trans (B4.out.block k hk)⟩
    obtain ⟨ay, ly, cy, rfl⟩ : ∃ a l c, z = .slice a l c := by obtain ⟨a, c, e, -⟩ := hL.at.shape; exact ⟨a, _, c, e⟩
    have LX := Lib.hid hL
    have sW : W.heap.size ≤ w4.heap.size := B4.out.size
    clear hL hO
    have f0 := frozen_of_row w9 (B) 0 _ _ RX.out
    have f1 := frozen_of_row w9 (B) 1 _ _ RX.out
    have d0 : w9.cell? ⟨B, 0, none⟩ = some (.int .i64 0) := by rw [cell_of_row w9 (B) 0 _ _ _ RX.out]; rfl
    have d1 : w9.cell? ⟨B, 1, none⟩ = some (.slice none 0 0) := by rw [cell_of_row w9 (B) 1 _ _ _ RX.out]; rfl
    go_wp2
    have R9 := set2_row w9 (B) _ _ (.int .i64 qn) (.slice ay ly cy) _ RX.out
    have B9 := (BX.out.setCell (p := ⟨B, 0, none⟩) (by simp only; omega) (.int .i64 qn)).setCell (p := ⟨B, 1, none⟩) (by simp only; omega) (.slice ay ly cy)
    have L9 := RowsL.off2 LX.out (show B < w4.heap.size by omega) (.int .i64 qn) (.slice ay ly cy)
    have hld := run_loadVar_row (P := Tryd.prog) _ _ 30 30 #[.int .i64 qn, .slice ay ly cy] (0, 0) _ R9 Tryd.underlying30 rfl Tryd.infoDes
    refine bodyPost_ret (v := .tuple #[.agg #[.int .i64 qn, .slice ay ly cy], .int .i64 qc]) ?_ rfl ⟨_, by rw [V.out.1, V.out.2.2], ?_, by rw [HB.out]; exact B9⟩
    · rw [results_cell_tmp rfl]
      simp [asAddr, Result.andThen, hld]
    · rw [V.out.2.1]; exact L9.mono (by omega) (by simp [World.setCell]) (Nat.le_refl _)
end Go.Proofs.YtpckbhelnoeifaaDoor
