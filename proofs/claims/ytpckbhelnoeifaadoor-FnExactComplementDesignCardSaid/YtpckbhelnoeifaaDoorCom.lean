/- ComplementDesign: the model. -/
import Derived.Test.YtpckbhelnoeifaaDoorDlw
import Derived.Test.YtpckbhelnoeifaaDoorInd
import Derived.Test.YtpckbhelnoeifaaDoorUs
namespace Go.Proofs.YtpckbhelnoeifaaDoor
open Go.RowKit Go.Shelf
set_option linter.unusedVariables false
set_option linter.unusedSimpArgs false

/-- The point x does not stand in the block i. -/
def coB (xss : List (List Int)) (i x : Nat) : Bool := !decide ((x : Int) ∈ xss.getD i [])
noncomputable def ComplementDesign_N (n : Int) (xss : List (List Int)) : Int := if desB n xss then dxN n (setsL xss.length n.toNat (coB xss)) else 0
noncomputable def ComplementDesign_L (n : Int) (xss : List (List Int)) : List (List Int) := if desB n xss then dxL (setsL xss.length n.toNat (coB xss)) else []
noncomputable def ComplementDesign_C (n : Int) (xss : List (List Int)) : Int := if desB n xss then dxC (setsL xss.length n.toNat (coB xss)) else 1
theorem com_no {n : Int} {xss : List (List Int)} (h : desB n xss = false) : ComplementDesign_N n xss = 0 ∧ ComplementDesign_L n xss = [] ∧ ComplementDesign_C n xss = 1 := by
  unfold ComplementDesign_N ComplementDesign_L ComplementDesign_C; rw [h]; exact ⟨rfl, rfl, rfl⟩
theorem com_yes {n : Int} {xss : List (List Int)} (h : desB n xss = true) : ComplementDesign_N n xss = dxN n (setsL xss.length n.toNat (coB xss)) ∧ ComplementDesign_L n xss = dxL (setsL xss.length n.toNat (coB xss)) ∧ ComplementDesign_C n xss = dxC (setsL xss.length n.toNat (coB xss)) := by
  unfold ComplementDesign_N ComplementDesign_L ComplementDesign_C; rw [h]; exact ⟨rfl, rfl, rfl⟩
theorem totComplementDesign (n : Int) (xss : List (List Int)) : tot (ComplementDesign_L n xss) ≤ 5000 := by
  unfold ComplementDesign_L
  split
  · rename_i h
    have d := of_desB h
    have a := (dxL_tot (setsL xss.length n.toNat (coB xss))).1
    have b := setsL_tot xss.length n.toNat (coB xss)
    have c : xss.length * n.toNat ≤ 128 * 32 := Nat.mul_le_mul d.2.2.1 (by have := d.2.1; omega)
    omega
  · simp [tot]
/-- All points without those of a block. -/
theorem cmb_all {N : Nat} {n : Int} {ys : List Int} (hn : n = N) (h32 : N ≤ 32) (h : Rises 0 (n - 1) ys) : cmbA (fun a b => a && !b) (fls N (fun _ => true)) ys = fls N (fun x => !decide ((x : Int) ∈ ys)) := by
  subst hn
  unfold cmbA
  rw [if_pos (by rw [Bool.and_eq_true]; unfold validSet; rw [risesB_true (rises_wider (fls_rises N _) (by omega)), risesB_true (rises_wider h (by omega))]; exact ⟨rfl, rfl⟩)]
  refine sorted_ext _ _ (fls_sorted _ _) (fls_sorted _ _) fun z => ?_
  rw [fls_mem, fls_mem]
  constructor
  · rintro ⟨k, h1, h2, rfl⟩
    simp only [Bool.and_eq_true] at h2
    obtain ⟨k', h3, -, e⟩ := (fls_mem N _ _).1 (of_decide_eq_true h2.1)
    exact ⟨k, by omega, h2.2, rfl⟩
  · rintro ⟨k, h1, h2, rfl⟩
    exact ⟨k, by omega, by rw [Bool.and_eq_true]; exact ⟨decide_eq_true ((fls_mem N _ _).2 ⟨k, h1, rfl, rfl⟩), h2⟩, rfl⟩

set_option maxHeartbeats 1000000 in
theorem sAllP (N : Nat) (h32 : N ≤ 32) (w : World) : Calls Tryd.prog 54 #[.int .i64 (N : Int)] w fun e w' => ∃ v, e = .returned v ∧ Ints w' w.heap.size v (fls N (fun _ => true)) ∧ Below w.heap.size w w' := by
  obtain ⟨B, hB⟩ : ∃ B, w.heap.size = B := ⟨_, rfl⟩
  have I0 : Hid (Ints (w.alloc (.cells #[] 2)) B (.slice (some ⟨B, 0, none⟩) 0 0) (fls 0 (fun _ => true))) := by
    rw [← hB]; exact World.ownsRow_made w #[] 0 (Nat.le_refl _) (by decide) rfl
  have B0 : Hid (Below B w (w.alloc (.cells #[] 2))) := by unfold Hid; rw [← hB]; exact (Below.refl _ _).alloc (Nat.le_refl _) _
  have RS : Hid (∀ j, fls (j + 1) (fun _ => true) = fls j (fun _ => true) ++ [(j : Int)]) := fun j => by rw [fls_succ]; simp
  have RL : Hid (∀ j, (fls j (fun _ => true)).length ≤ j) := fun j => fls_len j _
  have HB := Lib.hid hB
  go_enter Tryd.func54, Tryd.ntmps54
  go_wp2
  clear hB
  go_loopw [3, 4] (fun rv i wr => ∃ j : Nat, j ≤ N ∧ i = .int .i64 j ∧ Hid (Ints wr B rv (fls j (fun _ => true))) ∧ Hid (Below B w wr)) (fun _ i _ => N - (intOf i).toNat)
  case atStart => exact ⟨0, by omega, rfl, I0, B0⟩
  case round =>
    obtain ⟨j, hj, rfl, hI, hB6⟩ := hrel
    by_cases cj : j < N
    · have k3 : decide (j < N) = true := by simpa using cj
      have k3' : decide ((j : Int) < (N : Int)) = true := decide_eq_true (by omega)
      have w5 := IntWalk.i64_in ((j : Int) + 1) (by omega)
      have LJ : (fls j (fun _ => true)).length < 1000000000000 := by have := RL.out j; omega
      have SJ := Lib.hid (RS.out j)
      have nz : B ≤ wr.heap.size := by have := hB6.out.size; have := HB.out; omega
      go_wp2_with (at_builtin; refine wpList_push wr (by rfl) _ _ (by rfl) B _ _ (by rfl) hI.out (j : Int) _ (by rfl) LJ nz ?_; intro v' w8 hn hb; have HN := Lib.hid hn; have HB8 := Lib.hid hb; clear hn hb)
      go_roundw
      case rel => exact ⟨j + 1, by omega, by go_num, by unfold Hid; rw [SJ.out]; exact HN.out, hB6.out.trans HB8.out⟩
      case measure => simp [intOf]; omega
    · have k3 : decide (j < N) = false := by simpa using cj
      have k3' : decide ((j : Int) < (N : Int)) = false := decide_eq_false (by omega)
      obtain rfl : j = N := by omega
      obtain ⟨ra, rc, rfl⟩ := hI.out.len_eq
      go_wp2
      go_ret
      exact ⟨_, rfl, by rw [HB.out]; exact hI.out, by rw [HB.out]; exact hB6.out⟩

set_option maxRecDepth 100000 in
set_option maxHeartbeats 4000000 in
theorem sComplementDesign (n : Int) (xss : List (List Int)) (W : World) (v : Value) (hv : RowsAt W v xss) :
    Calls Tryd.prog 26 #[.agg #[.int .i64 n, v]] W fun e w' => ∃ z, e = .returned (.tuple #[.agg #[.int .i64 (ComplementDesign_N n xss), z], .int .i64 (ComplementDesign_C n xss)]) ∧ RowsL w' W.heap.size w'.heap.size z (ComplementDesign_L n xss) ∧ Below W.heap.size W w' := by
  obtain ⟨a, cap, rfl, K⟩ := hv.rowsIn
  obtain ⟨m, hm⟩ : ∃ m, xss.length = m := ⟨_, rfl⟩
  rw [hm] at hv K ⊢
  obtain ⟨B, hB⟩ : ∃ B, W.heap.size = B := ⟨_, rfl⟩
  rw [hB] at K
  obtain ⟨w1, hw1⟩ : ∃ w1, W.alloc (.cells #[.int .i64 n, .slice a m cap] 30) = w1 := ⟨_, rfl⟩
  have z1 : w1.heap.size = B + 1 := by rw [← hw1, World.size_alloc, hB]
  have b1 : Below B W w1 := by rw [← hw1]; exact (Below.refl _ _).alloc (by omega) _
  have A1 : w1.heap[B]? = some (.cells #[.int .i64 n, .slice a m cap] 30 (0, 0)) := by rw [← hw1, ← hB]; exact heap_alloc_new _ _
  obtain ⟨w2, hw2⟩ : ∃ w2, w1.alloc (.cells #[.int .i64 0, .slice none 0 0] 30) = w2 := ⟨_, rfl⟩
  have z2 : w2.heap.size = B + 2 := by rw [← hw2, World.size_alloc, z1]
  have b12 : Below (B + 1) w1 w2 := by rw [← hw2]; exact (Below.refl _ _).alloc (Nat.le_of_eq z1.symm) _
  have b2 : Below B W w2 := b1.trans (b12.mono (by omega))
  have A2 : w2.heap[B]? = some (.cells #[.int .i64 n, .slice a m cap] 30 (0, 0)) := (b12.block B (by omega)).trans A1
  have R2 : w2.heap[B + 1]? = some (.cells #[.int .i64 0, .slice none 0 0] 30 (0, 0)) := by rw [← hw2, ← z1]; exact heap_alloc_new _ _
  have c0 : w2.cell? ⟨B, 0, none⟩ = some (.int .i64 n) := by rw [cell_of_row w2 B 0 _ _ _ A2]; rfl
  have c1 : w2.cell? ⟨B, 1, none⟩ = some (.slice a m cap) := by rw [cell_of_row w2 B 1 _ _ _ A2]; rfl
  have HO := Lib.hid (sOk n xss w2 _ B c0 c1 (hv.below b2 (by omega)))
  have HB := Lib.hid hB
  have B2 := Lib.hid b2
  have HR := Lib.hid R2
  cases hp : desB n xss with
  | false =>
    have V := Lib.hid (com_no hp)
    rw [hp] at HO
    clear hp hv A1 A2 b1 b12 b2 K R2
    go_enter Tryd.func26, Tryd.ntmps26
    go_wp2_with fail
    try rw [hw1]
    try rw [hw2]
    refine HO.out.mono ?_
    rintro e w3 ⟨rfl, d, rfl⟩
    have RX : Hid ((w2.drewN d).heap[B + 1]? = some (.cells #[.int .i64 0, .slice none 0 0] 30 (0, 0))) := HR.out
    have BX : Hid (Below B W (w2.drewN d)) := below_drewN B2.out d
    obtain ⟨w4, hw4⟩ : ∃ W, w2.drewN d = W := ⟨_, rfl⟩
    rw [hw4] at RX BX ⊢
    clear hw4 c0 c1
    have f0 := frozen_of_row w4 (B + 1) 0 _ _ RX.out
    have f1 := frozen_of_row w4 (B + 1) 1 _ _ RX.out
    have d0 : w4.cell? ⟨B + 1, 0, none⟩ = some (.int .i64 0) := by rw [cell_of_row w4 (B + 1) 0 _ _ _ RX.out]; rfl
    have d1 : w4.cell? ⟨B + 1, 1, none⟩ = some (.slice none 0 0) := by rw [cell_of_row w4 (B + 1) 1 _ _ _ RX.out]; rfl
    go_wp2
    have R9 := set2_row w4 (B + 1) _ _ (.int .i64 0) (.slice none 0 0) _ RX.out
    have B9 := (BX.out.setCell (p := ⟨B + 1, 0, none⟩) (by simp only; omega) (.int .i64 0)).setCell (p := ⟨B + 1, 1, none⟩) (by simp only; omega) (.slice none 0 0)
    have hld := run_loadVar_row (P := Tryd.prog) _ _ 30 30 #[.int .i64 0, .slice none 0 0] (0, 0) _ R9 Tryd.underlying30 rfl Tryd.infoDes
    refine bodyPost_ret (v := .tuple #[.agg #[.int .i64 0, .slice none 0 0], .int .i64 1]) ?_ rfl ⟨_, by rw [V.out.1, V.out.2.2], ?_, by rw [HB.out]; exact B9⟩
    · rw [results_cell_tmp rfl]
      simp [asAddr, Result.andThen, hld]
    · rw [V.out.2.1]; exact RowsL.nil _ _ _ (Nat.le_refl _)
  | true =>
    have D := of_desB hp
    have m128 : m ≤ 128 := by have := D.2.2.1; omega
    obtain ⟨N, rfl⟩ : ∃ N : Nat, n = N := ⟨n.toNat, by have := D.1; omega⟩
    have n32 : N ≤ 32 := by have := D.2.1; omega
    have n1 : 1 ≤ N := by have := D.1; omega
    rw [hp] at HO
    have DC := Lib.hid (fun W2 (h : Below (B + 2) w2 W2) => And.intro (show W2.cell? ⟨B, 0, none⟩ = some (.int .i64 (N : Int)) from (h.cell (p := ⟨B, 0, none⟩) (show B < B + 2 by omega)).trans c0) (show W2.cell? ⟨B, 1, none⟩ = some (.slice a m cap) from (h.cell (p := ⟨B, 1, none⟩) (show B < B + 2 by omega)).trans c1))
    have BW := Lib.hid (fun W2 (h : Below (B + 2) w2 W2) => b2.trans (h.mono (show B ≤ B + 2 by omega)))
    have RW := Lib.hid (fun W2 (h : Below (B + 2) w2 W2) => (h.block (B + 1) (show B + 1 < B + 2 by omega)).trans R2)
    have V := Lib.hid (com_yes hp)
    rw [hm, Int.toNat_natCast] at V
    have HK : Hid (∀ W2, Below B W W2 → ∀ j, j < m → ∃ g1 o1 u, a = some ⟨g1, o1, none⟩ ∧ W2.cell? ⟨g1, o1 + j, none⟩ = some u ∧ (∃ ua l uc, u = .slice ua l uc) ∧ IntsAt W2 u (xss.getD j [])) := fun W2 hW j hj => by
      obtain ⟨g1, o1, u, e1, e2, e3⟩ := K W2 hW j hj
      obtain ⟨ua, uc, e4, -, -⟩ := e3.shape
      exact ⟨g1, o1, u, e1, e2, ⟨ua, _, uc, e4⟩, e3⟩
    have CB : Hid (∀ j, j < m → cmbA (fun a b => a && !b) (fls N (fun _ => true)) (xss.getD j []) = fls N (coB xss j)) := fun j hj => cmb_all rfl n32 (D.2.2.2 j (by omega)).1.2
    obtain ⟨F, hF⟩ : ∃ F, coB xss = F := ⟨_, rfl⟩
    rw [hF] at CB V
    have GS : Hid (∀ x, setsL (x + 1) N F = setsL x N F ++ [fls N (F x)]) := fun x => setsL_succ x N F
    have GL : Hid (∀ x, (setsL x N F).length = x) := fun x => setsL_len x N F
    have VE : Hid (∀ x, x < m → fls N (F x) = [] → dxN (N : Int) (setsL m N F) = 0 ∧ dxL (setsL m N F) = [] ∧ dxC (setsL m N F) = 6) := fun x hx e =>
      dx_empty N (anyE_true (i := x) (by rw [setsL_len]; exact hx) (by rw [setsL_at m N F x hx]; exact e))
    have VM : Hid ((∀ x, x < m → fls N (F x) ≠ []) → mkN (N : Int) (setsL m N F) = dxN (N : Int) (setsL m N F) ∧ mkL (N : Int) (setsL m N F) = dxL (setsL m N F) ∧ mkC (N : Int) (setsL m N F) = dxC (setsL m N F)) := fun h =>
      dx_mk (by omega) (by omega) (anyE_false fun i hi => by rw [setsL_len] at hi; rw [setsL_at m N F i hi]; exact h i hi) (fun i hi => by rw [setsL_len] at hi; rw [setsL_at m N F i hi]; exact fls_rises N (F i))
    have HM := Lib.hid (fun W2 u (h : RowsAt W2 u (setsL m N F)) => sMake (N : Int) (by omega) (by omega) (setsL m N F) (by rw [setsL_len]; omega) (fun i hi => by rw [setsL_len] at hi; rw [setsL_at m N F i hi]; have := fls_len N (F i); omega) W2 u h)
    obtain ⟨vn, hvn⟩ : ∃ z, dxN (N : Int) (setsL m N F) = z := ⟨_, rfl⟩
    obtain ⟨vl, hvl⟩ : ∃ z, dxL (setsL m N F) = z := ⟨_, rfl⟩
    obtain ⟨vc, hvc⟩ : ∃ z, dxC (setsL m N F) = z := ⟨_, rfl⟩
    rw [hvn, hvl, hvc] at V VE VM
    have HA := Lib.hid (fun W2 => sAllP N n32 W2)
    have HMI := Lib.hid (fun W2 B0 u v ys (h : Ints W2 B0 u (fls N (fun _ => true))) (h2 : IntsAt W2 v ys) => sMinusSets (fls N (fun _ => true)) ys u v W2 B0 h h2)
    have ZD : Hid (∀ d, (w2.drewN d).heap.size = B + 2 ∧ Below (B + 2) w2 (w2.drewN d)) := fun d => ⟨z2, below_drewN (Below.refl _ _) d⟩
    have ZZ : Hid (w2.heap.size = B + 2) := z2
    clear hp hv A1 A2 b1 b12 b2 K hF hm R2 hvn hvl hvc D c0 c1
    go_enter Tryd.func26, Tryd.ntmps26
    go_wp2_with fail
    try rw [hw1]
    try rw [hw2]
    refine HO.out.mono ?_
    rintro e w3 ⟨rfl, d, rfl⟩
    obtain ⟨z4, b4⟩ := ZD.out d
    obtain ⟨w4, hw4⟩ : ∃ w4, w2.drewN d = w4 := ⟨_, rfl⟩
    rw [hw4] at z4 b4 ⊢
    clear hw4 hw1 hw2
    have M0 : Hid (RowsL (w4.alloc (.cells #[] 47)) (B + 2) (w4.alloc (.cells #[] 47)).heap.size (.slice (some ⟨w4.heap.size, 0, none⟩) 0 0) (setsL 0 N F)) := by
      have := RowsL.made w4 (B + 2) 0 #[] (by omega) (by decide) rfl
      rw [← World.size_alloc w4 (.cells #[] 47)] at this
      exact this
    have B3 : Hid (Below (B + 2) w2 (w4.alloc (.cells #[] 47))) := b4.alloc (by omega) _
    clear hB
    obtain ⟨w3, hw3⟩ : ∃ w3, w4.alloc (.cells #[] 47) = w3 := ⟨_, rfl⟩
    rw [hw3, z4] at M0
    rw [hw3] at B3
    go_wp2
    try rw [hw3]
    clear hw3
    go_loopw [4, 5] (fun rv i wr => ∃ x : Nat, x ≤ m ∧ i = .int .i64 x ∧ Hid (RowsL wr (B + 2) wr.heap.size rv (setsL x N F)) ∧ Hid (Below (B + 2) w2 wr) ∧ Hid (∀ k, k < x → fls N (F k) ≠ [])) (fun _ i _ => m - (intOf i).toNat)
    case atStart => exact ⟨0, by omega, rfl, M0, B3, fun k hk => by omega⟩
    case round =>
      obtain ⟨x, hx, rfl, hR, hBl, hNE⟩ := hrel
      obtain ⟨c0, c1⟩ := DC.out wr hBl.out
      by_cases cx : x < m
      · have k1 : decide (x < m) = true := by simpa using cx
        have k1' : decide ((x : Int) < (m : Int)) = true := decide_eq_true (by omega)
        have w4 := IntWalk.i64_in ((x : Int) + 1) (by omega)
        have x0 : (0 : Int) ≤ (x : Int) := by omega
        have x1 : (x : Int) < (m : Int) := by omega
        have gx := GL.out x
        have SX := Lib.hid (GS.out x)
        have VX := Lib.hid (VE.out x cx)
        have CX := Lib.hid (CB.out x cx)
        have bz : B + 2 ≤ wr.heap.size := by have := hBl.out.size; have := ZZ.out; omega
        obtain ⟨g1, o1, u, rfl, e2, ⟨ua, l, uc, rfl⟩, e3⟩ := HK.out wr (BW.out wr hBl.out) x cx
        have Xe3 := Lib.hid e3
        clear e3
        go_upto_region 7 with fail
        obtain ⟨b, hb⟩ : ∃ b, wr.heap.size = b := ⟨_, rfl⟩
        have HELD : Hid (∀ W', Hid (Below b wr W') → (W'.cell? ⟨B, 0, none⟩ = some (.int .i64 (N : Int)) ∧ W'.cell? ⟨B, 1, none⟩ = some (.slice (some ⟨g1, o1, none⟩) m cap)) ∧ W'.cell? ⟨g1, o1 + x, none⟩ = some (.slice ua l uc) ∧ Hid (Below b wr W')) := fun W' h =>
          ⟨DC.out W' (hBl.out.trans (h.out.mono (by omega))), (h.out.cell (p := ⟨g1, o1 + x, none⟩) (by rw [← hb]; exact World.block_lt_of_cell? wr _ e2)).trans e2, h⟩
        have Dd : Hid (Below b wr wr.drew) := (Below.refl _ _).drew
        have Dd0 : Hid (Below b wr wr) := Below.refl _ _
        have BLW : Hid (∀ W' W'', Hid (Below b wr W') → Below W'.heap.size W' W'' → Hid (Below b wr W'')) := fun W' W'' h k => h.out.trans (k.mono (by have := h.out.size; omega))
        have XB : Hid (∀ W', Hid (Below b wr W') → IntsAt W' (.slice ua l uc) (xss.getD x [])) := fun W' h => Xe3.out.below h.out (Nat.le_of_eq hb)
        clear e2 c0 c1
        go_region_held3 (fun w' => (w'.cell? ⟨B, 0, none⟩ = some (.int .i64 (N : Int)) ∧ w'.cell? ⟨B, 1, none⟩ = some (.slice (some ⟨g1, o1, none⟩) m cap)) ∧ w'.cell? ⟨g1, o1 + x, none⟩ = some (.slice ua l uc) ∧ Hid (Below b wr w')) (first | exact HELD.out _ (by assumption))
          (first | (go_at_call 54; refine (HA.out _).mono ?_; rintro e w5 ⟨v5, rfl, i5, b5⟩; have D5 := BLW.out _ _ (by assumption) b5; have I5 := Lib.hid i5) | (go_at_call 53; refine (HMI.out _ _ _ _ _ I5.out (XB.out _ D5)).mono ?_; rintro e w6 ⟨v6, rfl, i6, b6⟩; have D6 := BLW.out _ _ D5 b6; have I6 := Lib.hid i6; have Z6 := Lib.hid D5.out.size))
        have z56 : b ≤ w5.heap.size := by have := Z6.out; omega
        have R6 : Hid (RowsL w6 (B + 2) w5.heap.size u4 (setsL x N F)) := (hR.out.below D6.out (Nat.le_of_eq hb)).mono (Nat.le_refl _) (by omega) b6.size
        have J6 : Hid (Ints w6 w5.heap.size v6 (fls N (F x))) := by unfold Hid; rw [← CX.out]; exact I6.out
        have BL6 : Below (B + 2) w2 w6 := hBl.out.trans (D6.out.mono (by omega))
        have BLH := Lib.hid BL6
        have zz6 : B + 2 ≤ w5.heap.size := by omega
        obtain ⟨ra, rc, hra⟩ := J6.out.len_eq
        obtain ⟨l, hl⟩ : ∃ l, (fls N (F x)).length = l := ⟨_, rfl⟩
        rw [hl] at hra
        subst hra
        obtain ⟨va, vc', rfl⟩ : ∃ a c, u4 = .slice a x c := by
          obtain ⟨a, c, h, -⟩ := R6.out.at.shape; rw [gx] at h; exact ⟨a, c, h⟩
        have gl : (setsL x N F).length < 1000000000 := by omega
        have RX := Lib.hid (RW.out w6 BL6)
        have BX := Lib.hid (BW.out w6 BL6)
        have bsz : B + 1 < w6.heap.size := by have := BL6.size; have := ZZ.out; omega
        obtain ⟨c0, c1⟩ := DC.out w6 BL6
        clear b6 b5 i6 i5 BL6
        by_cases zl : l = 0
        · have q1 : ((l : Int) == 0) = true := by simp; omega
          have q2 : (l == 0) = true := by simp; omega
          have VV := Lib.hid (VX.out (List.length_eq_zero_iff.1 (by omega)))
          have V : Hid (ComplementDesign_N (N : Int) xss = 0 ∧ ComplementDesign_L (N : Int) xss = [] ∧ ComplementDesign_C (N : Int) xss = 6) := ⟨V.out.1.trans VV.out.1, V.out.2.1.trans VV.out.2.1, V.out.2.2.trans VV.out.2.2⟩
          subst zl
          clear hl
          have f0 := frozen_of_row w6 (B + 1) 0 _ _ RX.out
          have f1 := frozen_of_row w6 (B + 1) 1 _ _ RX.out
          have d0 : w6.cell? ⟨B + 1, 0, none⟩ = some (.int .i64 0) := by rw [cell_of_row w6 (B + 1) 0 _ _ _ RX.out]; rfl
          have d1 : w6.cell? ⟨B + 1, 1, none⟩ = some (.slice none 0 0) := by rw [cell_of_row w6 (B + 1) 1 _ _ _ RX.out]; rfl
          go_wp2
          have R9 := set2_row w6 (B + 1) _ _ (.int .i64 0) (.slice none 0 0) _ RX.out
          have B9 := (BX.out.setCell (p := ⟨B + 1, 0, none⟩) (by simp only; omega) (.int .i64 0)).setCell (p := ⟨B + 1, 1, none⟩) (by simp only; omega) (.slice none 0 0)
          have hld := run_loadVar_row (P := Tryd.prog) _ _ 30 30 #[.int .i64 0, .slice none 0 0] (0, 0) _ R9 Tryd.underlying30 rfl Tryd.infoDes
          refine bodyPost_ret (v := .tuple #[.agg #[.int .i64 0, .slice none 0 0], .int .i64 6]) ?_ rfl ⟨_, by rw [V.out.1, V.out.2.2], ?_, by rw [HB.out]; exact B9⟩
          · rw [results_cell_tmp rfl]
            simp [asAddr, Result.andThen, hld]
          · rw [V.out.2.1]; exact RowsL.nil _ _ _ (Nat.le_refl _)
        · have q1 : ((l : Int) == 0) = false := by simp; omega
          have q2 : (l == 0) = false := by simp; omega
          have NE2 : Hid (∀ k, k < x + 1 → fls N (F k) ≠ []) := fun k hk => by
            by_cases e : k = x
            · rw [e]; intro h; rw [h] at hl; simp at hl; omega
            · exact hNE.out k (by omega)
          clear hl
          go_wp2_with (at_builtin; refine wpList_pushR w6 (by rfl) _ _ (by rfl) (B + 2) w5.heap.size _ _ _ _ (by rfl) R6.out J6.out _ (by rfl) gl zz6 ?_; intro v' w8 hn hb; have HN := Lib.hid hn; have HB8 := Lib.hid hb; clear hn hb)
          go_roundw
          case rel => exact ⟨x + 1, by omega, by go_num, by unfold Hid; rw [SX.out]; exact HN.out, BLH.out.trans HB8.out, NE2⟩
          case measure => simp [intOf]; omega
      · have k1 : decide (x < m) = false := by simpa using cx
        have k1' : decide ((x : Int) < (m : Int)) = false := decide_eq_false (by omega)
        obtain rfl : x = m := by omega
        have VM2 := Lib.hid (VM.out hNE.out)
        obtain ⟨va, vc', rfl, -⟩ := hR.out.at.shape
        have HM2 := Lib.hid (HM.out wr _ hR.out.at)
        rw [VM2.out.1, VM2.out.2.1, VM2.out.2.2] at HM2
        have sz : B + 2 ≤ wr.heap.size := by have := hBl.out.size; have := ZZ.out; omega
        have sW : W.heap.size ≤ wr.heap.size := by have := HB.out; omega
        go_wp2_with fail
        refine HM2.out.mono ?_
        rintro e w9 ⟨z, rfl, hL, b9⟩
        have RX : Hid (w9.heap[B + 1]? = some (.cells #[.int .i64 0, .slice none 0 0] 30 (0, 0))) := (b9.block (B + 1) (by omega)).trans (RW.out wr hBl.out)
        have BX : Hid (Below B W w9) := (BW.out wr hBl.out).trans (b9.mono (by omega))
        obtain ⟨ay, ly, cy, rfl⟩ : ∃ a l c, z = .slice a l c := by obtain ⟨a, c, e, -⟩ := hL.at.shape; exact ⟨a, _, c, e⟩
        have LX := Lib.hid hL
        obtain ⟨qn, hqn⟩ : ∃ q, vn = q := ⟨_, rfl⟩
        obtain ⟨qc, hqc⟩ : ∃ q, vc = q := ⟨_, rfl⟩
        subst hqn hqc
        clear hL b9 c0 c1
        have f0 := frozen_of_row w9 (B + 1) 0 _ _ RX.out
        have f1 := frozen_of_row w9 (B + 1) 1 _ _ RX.out
        have d0 : w9.cell? ⟨B + 1, 0, none⟩ = some (.int .i64 0) := by rw [cell_of_row w9 (B + 1) 0 _ _ _ RX.out]; rfl
        have d1 : w9.cell? ⟨B + 1, 1, none⟩ = some (.slice none 0 0) := by rw [cell_of_row w9 (B + 1) 1 _ _ _ RX.out]; rfl
        go_wp2
        have R9 := set2_row w9 (B + 1) _ _ (.int .i64 vn) (.slice ay ly cy) _ RX.out
        have B9 := (BX.out.setCell (p := ⟨B + 1, 0, none⟩) (by simp only; omega) (.int .i64 vn)).setCell (p := ⟨B + 1, 1, none⟩) (by simp only; omega) (.slice ay ly cy)
        have L9 := RowsL.off2 LX.out (show B + 1 < wr.heap.size by omega) (.int .i64 vn) (.slice ay ly cy)
        have hld := run_loadVar_row (P := Tryd.prog) _ _ 30 30 #[.int .i64 vn, .slice ay ly cy] (0, 0) _ R9 Tryd.underlying30 rfl Tryd.infoDes
        refine bodyPost_ret (v := .tuple #[.agg #[.int .i64 vn, .slice ay ly cy], .int .i64 vc]) ?_ rfl ⟨_, by rw [V.out.1, V.out.2.2], ?_, by rw [HB.out]; exact B9⟩
        · rw [results_cell_tmp rfl]
          simp [asAddr, Result.andThen, hld]
        · rw [V.out.2.1]; exact L9.mono (by omega) (by simp [World.setCell]) (Nat.le_refl _)
end Go.Proofs.YtpckbhelnoeifaaDoor
