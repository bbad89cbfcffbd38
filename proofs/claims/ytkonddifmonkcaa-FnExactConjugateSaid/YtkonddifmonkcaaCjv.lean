/- Conjugate: the numbers; the model. -/
import Derived.Test.YtkonddifmonkcaaSun
import Derived.Test.YtkonddifmonkcaaRds
namespace Go.Proofs.Ytkonddifmonkcaa
open Go.RowKit
set_option linter.unusedVariables false

theorem stU_zero {n r : Nat} (hn : n ≤ 12) : ∀ i, i ≤ n → ∀ x, n ≤ x → stU n r i x = 0
  | 0, _, x, hx => by
    show lt1 n x = 0
    unfold lt1
    rw [if_neg (by omega)]
  | i + 1, hi, x, hx => by
    obtain ⟨-, h2, -⟩ := unr_ok (r := r) hn (show i < n by omega)
    have ih := stU_zero (r := r) hn i (by omega)
    show updI (stU n r i) (unr n r i) _ x = 0
    have ne : x ≠ unr n r i := fun e => by
      have := ih _ (by omega : n ≤ unr n r i)
      omega
    rw [updI_ne _ _ _ _ ne]
    exact ih x hx
theorem unr_lt {n r i : Nat} (hn : n ≤ 12) (h : i < n) : unr n r i < n := by
  obtain ⟨-, h2, -⟩ := unr_ok (r := r) hn h
  rcases Nat.lt_or_ge (unr n r i) n with c | c
  · exact c
  · have := stU_zero (r := r) hn i (by omega) _ c
    omega
theorem unrL_getD {n r i : Nat} (h : i < n) : (unrL n r).getD i 0 = ((unr n r i : Nat) : Int) := by simp [unrL, List.getD, h]

/-- One of the three numbers of a cell. -/
def cmp3 (i x y : Nat) (z : Int) : Int := if i = 0 then (x : Int) else if i = 1 then (y : Int) else z
def conMv (f : Nat → Nat → Int) (p q s : Nat) : Nat → Nat → Nat × Nat × Int := fun x y => ((cmp3 p x y (f x y)).toNat, (cmp3 q x y (f x y)).toNat, cmp3 s x y (f x y))
noncomputable def conL (xss : List (List Int)) (k : Nat) : List (List Int) := gridL xss.length xss.length (movSt xss.length (conMv (cellF xss) (unr 3 k 0) (unr 3 k 1) (unr 3 k 2)) xss.length)
noncomputable def Conjugate_0 (xss : List (List Int)) (k : Int) : List (List Int) := if sqB xss = true ∧ (0 ≤ k ∧ k ≤ 5) then conL xss k.toNat else []
noncomputable def Conjugate_1 (xss : List (List Int)) (k : Int) : Int := if sqB xss = true then if 0 ≤ k ∧ k ≤ 5 then 0 else 2 else 1
theorem Con_bad {xss : List (List Int)} {k : Int} (h : sqB xss = false) : Conjugate_0 xss k = [] ∧ Conjugate_1 xss k = 1 := by
  unfold Conjugate_0 Conjugate_1
  rw [h, if_neg (fun q => Bool.noConfusion q.1), if_neg Bool.noConfusion]; exact ⟨rfl, rfl⟩
theorem Con_out {xss : List (List Int)} {k : Int} (h : sqB xss = true) (c : ¬ (0 ≤ k ∧ k ≤ 5)) : Conjugate_0 xss k = [] ∧ Conjugate_1 xss k = 2 := by
  unfold Conjugate_0 Conjugate_1
  rw [if_neg (fun q => c q.2), if_pos h, if_neg c]; exact ⟨rfl, rfl⟩
theorem Con_ok {xss : List (List Int)} {k : Nat} (h : sqB xss = true) (c : k ≤ 5) : Conjugate_0 xss (k : Int) = conL xss k ∧ Conjugate_1 xss (k : Int) = 0 := by
  unfold Conjugate_0 Conjugate_1
  have c' : 0 ≤ (k : Int) ∧ (k : Int) ≤ 5 := by omega
  rw [if_pos ⟨h, c'⟩, if_pos h, if_pos c', Int.toNat_natCast]; exact ⟨rfl, rfl⟩
theorem lenConjugate_0 (xss : List (List Int)) (k : Int) (hx : SmallLL xss) (hk : I64 k) : (Conjugate_0 xss k).length + tot (Conjugate_0 xss k) ≤ 2000000 := by
  unfold Conjugate_0
  split
  · rename_i h
    have := (of_sqB h.1).hi
    unfold conL
    rw [gridL_length, tot_gridL]
    have : xss.length * xss.length ≤ 10 * 10 := Nat.mul_le_mul this this
    omega
  · decide
theorem cmp3_in {n i x y : Nat} {z : Int} (hx : x < n) (hy : y < n) (hz : 0 ≤ z ∧ z < n) : 0 ≤ cmp3 i x y z ∧ cmp3 i x y z < n := by
  unfold cmp3
  split
  · omega
  · split <;> omega
theorem conMv_lt {n p q s : Nat} {f : Nat → Nat → Int} (hf : InSq n f) {x y : Nat} (hx : x < n) (hy : y < n) : (conMv f p q s x y).1 < n ∧ (conMv f p q s x y).2.1 < n := by
  have h1 := cmp3_in (i := p) hx hy (hf x y hx hy)
  have h2 := cmp3_in (i := q) hx hy (hf x y hx hy)
  unfold conMv
  simp only
  omega

set_option maxRecDepth 100000 in
set_option maxHeartbeats 8000000 in
theorem sConL (n k : Nat) (l1 : 1 ≤ n) (l2 : n ≤ 10) (hk : k ≤ 5) (w : World) (v : Value) (xss : List (List Int)) (hv : RowsAt w v xss)
    (lx : xss.length = n) (hrx : ∀ x, x < n → (xss.getD x []).length = n) (jf : InSq n (cellF xss)) :
    Calls Try.prog 62 #[v, .int .i64 k] w fun e w' => ∃ r, e = .returned r ∧ RowsL w' w.heap.size w'.heap.size r (gridL n n (movSt n (conMv (cellF xss) (unr 3 k 0) (unr 3 k 1) (unr 3 k 2)) n)) ∧ Below w.heap.size w w' := by
  obtain ⟨va, vk, rfl, k0⟩ := hv.look lx hrx
  have HK0 := Lib.hid k0
  have JF := Lib.hid jf
  have HU := Lib.hid (sUnr 3 k (by omega) (show k < fct 3 by show k < 3 * (2 * (1 * 1)); omega) w)
  have PL : Hid (∀ i, i < 3 → (unrL 3 k).getD i 0 = ((unr 3 k i : Nat) : Int)) := fun i hi => unrL_getD hi
  have P0 := unr_lt (r := k) (show 3 ≤ 12 by omega) (show 0 < 3 by omega)
  have P1 := unr_lt (r := k) (show 3 ≤ 12 by omega) (show 1 < 3 by omega)
  have P2 := unr_lt (r := k) (show 3 ≤ 12 by omega) (show 2 < 3 by omega)
  have PLL := Lib.hid (unrL_length 3 k)
  have pl0 := PL.out 0 (by omega)
  have pl1 := PL.out 1 (by omega)
  have pl2 := PL.out 2 (by omega)
  obtain ⟨U, hU⟩ : ∃ U, unrL 3 k = U := ⟨_, rfl⟩
  obtain ⟨p0, hp0⟩ : ∃ p, unr 3 k 0 = p := ⟨_, rfl⟩
  obtain ⟨p1, hp1⟩ : ∃ p, unr 3 k 1 = p := ⟨_, rfl⟩
  obtain ⟨p2, hp2⟩ : ∃ p, unr 3 k 2 = p := ⟨_, rfl⟩
  rw [hp0] at P0 pl0 ⊢
  rw [hp1] at P1 pl1 ⊢
  rw [hp2] at P2 pl2 ⊢
  rw [hU] at HU PLL pl0 pl1 pl2
  have MV : Hid (∀ x y, conMv (cellF xss) p0 p1 p2 x y = ((cmp3 p0 x y (cellF xss x y)).toNat, (cmp3 p1 x y (cellF xss x y)).toNat, cmp3 p2 x y (cellF xss x y))) := fun x y => rfl
  obtain ⟨mv, hmv⟩ : ∃ mv, conMv (cellF xss) p0 p1 p2 = mv := ⟨_, rfl⟩
  rw [hmv] at MV ⊢
  have MS : Hid (∀ x, movSt n mv (x + 1) = rowSt mv x (movSt n mv x) n) := fun x => rfl
  have RS : Hid (∀ x f y, rowSt mv x f (y + 1) = upd2 (rowSt mv x f y) (mv x y).1 (mv x y).2.1 (mv x y).2.2) := fun x f y => rfl
  have R0 : Hid (∀ x f, rowSt mv x f 0 = f) := fun x f => rfl
  have M0 : Hid (movSt n mv 0 = fun _ _ => 0) := rfl
  have PZ := Lib.hid pl0
  have PO := Lib.hid pl1
  have PT := Lib.hid pl2
  clear hv k0 hrx jf hmv lx hU hp0 hp1 hp2 PL pl0 pl1 pl2
  go_enter Try.func62, Try.ntmps62
  go_wp2_with fail
  refine HU.out.mono ?_
  rintro e w1 ⟨u, rfl, i1, b1⟩
  obtain ⟨gp, fp, gc, rfl, lk⟩ : ∃ gp fp gc, u = .slice (some ⟨gp, fp, none⟩) 3 gc ∧ ∀ i, i < 3 → w1.cell? ⟨gp, fp + i, none⟩ = some (.int .i64 (U.getD i 0)) := by
    have := i1.at
    obtain ⟨_, ⟨rfl, -⟩ | ⟨g, off, cap, rfl, h⟩⟩ := this
    · have := PLL.out; simp at this
    · rw [PLL.out] at h ⊢; exact ⟨g, off, cap, rfl, h⟩
  have c0 := lk 0 (by omega)
  have c1 := lk 1 (by omega)
  have c2 := lk 2 (by omega)
  rw [PZ.out] at c0
  rw [PO.out] at c1
  rw [PT.out] at c2
  rw [Nat.add_zero] at c0
  have gpl := World.block_lt_of_cell? w1 _ c0
  have HZ := Lib.hid (sZero n n (by omega) (by omega) w1)
  obtain ⟨B, hB⟩ : ∃ B, w1.heap.size = B := ⟨_, rfl⟩
  rw [hB] at HZ gpl
  have wB : w.heap.size ≤ B := by rw [← hB]; exact b1.size
  have B1 := Lib.hid b1
  have CC : Hid (∀ W, Below B w1 W → W.cell? ⟨gp, fp, none⟩ = some (.int .i64 p0) ∧ W.cell? ⟨gp, fp + 1, none⟩ = some (.int .i64 p1) ∧ W.cell? ⟨gp, fp + 2, none⟩ = some (.int .i64 p2)) := fun W h =>
    ⟨(h.cell (p := ⟨gp, fp, none⟩) gpl).trans c0, (h.cell (p := ⟨gp, fp + 1, none⟩) gpl).trans c1, (h.cell (p := ⟨gp, fp + 2, none⟩) gpl).trans c2⟩
  have HBB := Lib.hid hB
  clear i1 b1 lk c0 c1 c2 HU hB
  go_wp2_with fail
  refine HZ.out.mono ?_
  rintro e w2 ⟨ov, rfl, r2, b2⟩
  obtain ⟨g0, c0, rfl⟩ := r2.parts l1
  obtain ⟨Z, hZ⟩ : ∃ Z, w2.heap.size = Z := ⟨_, rfl⟩
  rw [hZ, ← M0.out] at r2
  have R2 := Lib.hid r2
  have B2 := Lib.hid b2
  have zz2 : Z ≤ w2.heap.size := by omega
  clear r2 b2 hZ HZ
  go_wp2
  go_loopw [8] (fun i wr => ∃ x : Nat, x ≤ n ∧ i = .int .i64 x ∧ Hid (RowsL wr B Z (.slice (some ⟨g0, 0, none⟩) n c0) (gridL n n (movSt n mv x))) ∧ Hid (Below B w1 wr) ∧ Z ≤ wr.heap.size) (fun i _ => n - (intOf i).toNat)
  case atStart => exact ⟨0, by omega, rfl, R2, B2, zz2⟩
  case round =>
    obtain ⟨x, hx, rfl, hR, hBl, hz⟩ := hrel
    by_cases c : x < n
    · have k1 : decide (x < n) = true := by simpa using c
      have k1' : decide ((x : Int) < (n : Int)) = true := decide_eq_true (by omega)
      have wx3 := IntWalk.i64_in ((x : Int) + 1) (by omega)
      have x0 : (0 : Int) ≤ (x : Int) := by omega
      have x1 : (x : Int) < (n : Int) := by omega
      obtain ⟨wq, rfl⟩ : ∃ wq : World, wq = wr := ⟨_, rfl⟩
      go_wp2
      go_loopw [9] (fun i wr => ∃ y : Nat, y ≤ n ∧ i = .int .i64 y ∧ Hid (RowsL wr B Z (.slice (some ⟨g0, 0, none⟩) n c0) (gridL n n (rowSt mv x (movSt n mv x) y))) ∧ Hid (Below B w1 wr) ∧ Z ≤ wr.heap.size) (fun i _ => n - (intOf i).toNat)
      case atStart => exact ⟨0, by omega, rfl, by unfold Hid; rw [R0.out]; exact hR, hBl, hz⟩
      case round =>
        obtain ⟨y, hy, rfl, hR2, hBl2, hz2⟩ := hrel
        by_cases c2 : y < n
        · have k2 : decide (y < n) = true := by simpa using c2
          have k2' : decide ((y : Int) < (n : Int)) = true := decide_eq_true (by omega)
          have wy4 := IntWalk.i64_in ((y : Int) + 1) (by omega)
          have y0 : (0 : Int) ≤ (y : Int) := by omega
          have y1 : (y : Int) < (n : Int) := by omega
          have mvx := MV.out x y
          have rsx := RS.out x (movSt n mv x) y
          rw [mvx] at rsx
          obtain ⟨u1, u2⟩ := JF.out x y c c2
          have BW : Below w.heap.size w wr := B1.out.trans (hBl2.out.mono wB)
          obtain ⟨ga, fa, ga2, fa2, ca2, rfl, m4, m5⟩ := HK0.out wr BW x y c c2
          obtain ⟨u, hu⟩ : ∃ u, cellF xss x y = u := ⟨_, rfl⟩
          rw [hu] at m5 u1 u2 rsx
          -- the three numbers
          obtain ⟨G, hG⟩ : ∃ G, wr.heap.size = G := ⟨_, rfl⟩
          have BG : B ≤ G := by have := hBl2.out.size; have := HBB.out; omega
          have ZG : Z ≤ G := by omega
          have T0 : (wr.alloc (.cells #[.int .i64 x, .int .i64 y, .int .i64 u] 2)).heap[G]? = some (.cells #[.int .i64 x, .int .i64 y, .int .i64 u] 2 (0, 0)) := by rw [← hG]; exact heap_alloc_new _ _
          have hRa : RowsL (wr.alloc (.cells #[.int .i64 x, .int .i64 y, .int .i64 u] 2)) B Z (.slice (some ⟨g0, 0, none⟩) n c0) (gridL n n (rowSt mv x (movSt n mv x) y)) := hR2.out.below ((Below.refl G wr).alloc (by omega) _) (by omega)
          have hBa : Below B w1 (wr.alloc (.cells #[.int .i64 x, .int .i64 y, .int .i64 u] 2)) := hBl2.out.alloc (by omega) _
          have hza : (wr.alloc (.cells #[.int .i64 x, .int .i64 y, .int .i64 u] 2)).heap.size = G + 1 := by rw [World.size_alloc, hG]
          obtain ⟨wa, hwa⟩ : ∃ wa, wr.alloc (.cells #[.int .i64 x, .int .i64 y, .int .i64 u] 2) = wa := ⟨_, rfl⟩
          rw [hwa] at T0 hRa hBa hza
          obtain ⟨wd, hwd⟩ : ∃ wd, wa.drew = wd := ⟨_, rfl⟩
          have T1 : ∀ i, i < 3 → wd.cell? ⟨G, i, none⟩ = some (.int .i64 (cmp3 i x y u)) := fun i hi => by
            have : wd.heap[G]? = some (.cells #[.int .i64 x, .int .i64 y, .int .i64 u] 2 (0, 0)) := by rw [← hwd]; exact T0
            rw [cell_of_row wd G i _ _ _ this]
            rcases (show i = 0 ∨ i = 1 ∨ i = 2 by omega) with rfl | rfl | rfl <;> rfl
          have hR3 : RowsL wd B Z (.slice (some ⟨g0, 0, none⟩) n c0) (gridL n n (rowSt mv x (movSt n mv x) y)) := by rw [← hwd]; exact hRa
          have hB3 : Below B w1 wd := by rw [← hwd]; exact hBa.drew
          have hz3 : wd.heap.size = G + 1 := by rw [← hwd]; exact hza
          obtain ⟨q0, q1, q2⟩ := CC.out wd hB3
          have t0 := T1 p0 P0
          have t1 := T1 p1 P1
          have t2 := T1 p2 P2
          have r0 := cmp3_in (i := p0) c c2 ⟨u1, u2⟩
          have r1 := cmp3_in (i := p1) c c2 ⟨u1, u2⟩
          obtain ⟨X, hX⟩ : ∃ X : Nat, cmp3 p0 x y u = X := ⟨(cmp3 p0 x y u).toNat, by omega⟩
          obtain ⟨Y, hY⟩ : ∃ Y : Nat, cmp3 p1 x y u = Y := ⟨(cmp3 p1 x y u).toNat, by omega⟩
          obtain ⟨z, hzz⟩ : ∃ z, cmp3 p2 x y u = z := ⟨_, rfl⟩
          rw [hX] at t0 r0 rsx
          rw [hY] at t1 r1 rsx
          rw [hzz] at t2 rsx
          simp only [Int.toNat_natCast] at rsx
          obtain ⟨g0', c0', g, cc, e0, d1, d2, d3, d4, d5, d6⟩ := gridSet hR3 (x := X) (y := Y) (by omega) (by omega)
          simp only [Value.slice.injEq, Option.some.injEq, Addr.mk.injEq] at e0
          obtain ⟨⟨rfl, -⟩, -, rfl⟩ := e0
          have S1 : Hid (RowsL (wd.setCell ⟨g, Y, none⟩ (.int .i64 z)) B Z (.slice (some ⟨g0, 0, none⟩) n c0) (gridL n n (rowSt mv x (movSt n mv x) (y + 1)))) := by have := d6 z; rwa [← rsx] at this
          have S2 : Hid (Below B w1 (wd.setCell ⟨g, Y, none⟩ (.int .i64 z))) := hB3.setCell (p := ⟨g, Y, none⟩) d4 _
          have S3 : Z ≤ (wd.setCell ⟨g, Y, none⟩ (.int .i64 z)).heap.size := by simp [World.setCell]; omega
          have X0 : (0 : Int) ≤ (X : Int) := by omega
          have X1 : (X : Int) < (n : Int) := by omega
          have Y0 : (0 : Int) ≤ (Y : Int) := by omega
          have Y1 : (Y : Int) < (n : Int) := by omega
          have a0 : (0 : Int) ≤ (p0 : Int) := by omega
          have a1 : (0 : Int) ≤ (p1 : Int) := by omega
          have a2 : (0 : Int) ≤ (p2 : Int) := by omega
          have a3 : (p0 : Int) < 3 := by omega
          have a4 : (p1 : Int) < 3 := by omega
          have a5 : (p2 : Int) < 3 := by omega
          clear hzz rsx hR3 d6 hB3 mvx hu hX hY T0 T1 hRa hBa BW hza r0 r1
          go_wp2
          refine wp_region_still_tail 22 (by kernel_rfl) (by kernel_rfl) ?_
          simp only [List.take_succ_cons, List.take_zero, List.drop_succ_cons, List.drop_zero]
          change wpStill _ _ wa.drew _ _ _
          rw [hwd]
          repeat still_step
          refine wpStill_nil ?_
          change wpList _ _ _ _ _ wa.drew
          rw [hwd]
          clear hwd
          go_wp2
          go_roundw
          case rel => exact ⟨y + 1, by omega, by go_num, S1, S2, S3⟩
          case measure => simp [intOf]; omega
        · have k2 : decide (y < n) = false := by simpa using c2
          have k2' : decide ((y : Int) < (n : Int)) = false := decide_eq_false (by omega)
          obtain rfl : y = n := by omega
          go_wp2
          go_roundw
          case rel => exact ⟨x + 1, by omega, by go_num, by unfold Hid; rw [MS.out]; exact hR2.out, hBl2, hz2⟩
          case measure => simp [intOf]; omega
    · have k1 : decide (x < n) = false := by simpa using c
      have k1' : decide ((x : Int) < (n : Int)) = false := decide_eq_false (by omega)
      obtain rfl : x = n := by omega
      have RR := Lib.hid (hR.out.mono (B' := w.heap.size) wB hz (Nat.le_refl _))
      have BB := Lib.hid (B1.out.trans (hBl.out.mono wB))
      go_wp2
      go_ret
      exact ⟨_, rfl, RR.out, BB.out⟩

set_option maxRecDepth 100000 in
set_option maxHeartbeats 4000000 in
theorem sConjugate (xss : List (List Int)) (k : Int) (hx : SmallLL xss) (hk : I64 k) (w : World) (v : Value) (hv : RowsAt w v xss) :
    Calls Try.prog 37 #[v, .int .i64 k] w fun e w' => ∃ r, e = .returned (.tuple #[r, .int .i64 (Conjugate_1 xss k)]) ∧ RowsAt w' r (Conjugate_0 xss k) ∧ Below w.heap.size w w' := by
  have HA := Lib.hid (sSq w v xss hv)
  have VB := Lib.hid (fun h => Con_bad (xss := xss) (k := k) h)
  have VF := Lib.hid (fun h c => Con_out (xss := xss) (k := k) h c)
  have VO := Lib.hid (fun j h c => Con_ok (xss := xss) (k := j) h c)
  have SA := Lib.hid (fun h => of_sqB (xss := xss) h)
  have HV := Lib.hid (fun W (b : Below w.heap.size w W) => hv.below b (Nat.le_refl _))
  obtain ⟨z, hz⟩ : ∃ z, sqB xss = z := ⟨_, rfl⟩
  rw [hz] at HA
  simp only [hz] at VB VF VO SA
  clear hv hx hz
  cases z with
  | false =>
    have V := Lib.hid (VB.out rfl)
    clear VB VF VO SA
    go_enter Try.func37, Try.ntmps37
    go_wp2_with fail
    refine HA.out.mono ?_
    rintro e w1 ⟨rfl, b1⟩
    have B1 := Lib.hid b1
    clear b1
    go_wp2
    go_ret2
    exact ⟨_, by rw [V.out.2]; rfl, by rw [V.out.1]; exact RowsAt.nil _ _ _, B1.out⟩
  | true =>
    have S1 := SA.out rfl
    have l1 := S1.lo
    have l2 := S1.hi
    have r1 := S1.rowLen
    have i1 := S1.inSq
    by_cases c : 0 ≤ k ∧ k ≤ 5
    case neg =>
      have V := Lib.hid (VF.out rfl c)
      have HI := Lib.hid (fun W => in_no' k 0 5 W (by omega))
      clear VB VF VO SA S1 r1 i1
      go_enter Try.func37, Try.ntmps37
      go_wp2_with fail
      refine HA.out.mono ?_
      rintro e w1 ⟨rfl, b1⟩
      have B1 := Lib.hid b1
      clear b1
      go_wp2_with fail
      refine (HI.out _).mono ?_
      rintro e w2 ⟨rfl, rfl⟩
      go_wp2
      go_ret2
      exact ⟨_, by rw [V.out.2]; rfl, by rw [V.out.1]; exact RowsAt.nil _ _ _, B1.out⟩
    obtain ⟨j, rfl⟩ : ∃ j : Nat, k = j := ⟨k.toNat, by omega⟩
    have V := Lib.hid (VO.out j rfl (by omega))
    have VL : Hid (conL xss j = gridL xss.length xss.length (movSt xss.length (conMv (cellF xss) (unr 3 j 0) (unr 3 j 1) (unr 3 j 2)) xss.length)) := rfl
    have HI := Lib.hid (fun W => in_yes' (j : Int) 0 5 W (by omega) (by omega))
    have HT := Lib.hid (fun W (b : Below w.heap.size w W) => sConL xss.length j l1 l2 (by omega) W v xss (HV.out W b) rfl r1 i1)
    rw [← VL.out] at HT
    clear VB VF VO SA S1 r1 i1 HV VL
    go_enter Try.func37, Try.ntmps37
    go_wp2_with fail
    refine HA.out.mono ?_
    rintro e w1 ⟨rfl, b1⟩
    have B1 := Lib.hid b1
    clear b1
    go_wp2_with fail
    refine (HI.out _).mono ?_
    rintro e w2 ⟨rfl, rfl⟩
    go_wp2_with fail
    refine (HT.out _ B1.out).mono ?_
    rintro e w3 ⟨r, rfl, r3, b3⟩
    have R3 := Lib.hid r3.at
    have B3 := Lib.hid (t_chain B1.out b3)
    clear r3 b3
    go_wp2
    go_ret2
    exact ⟨_, by rw [V.out.2]; rfl, by rw [V.out.1]; exact R3.out, B3.out⟩
end Go.Proofs.Ytkonddifmonkcaa
