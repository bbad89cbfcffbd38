/- Products of elements, by the model. -/
import Derived.Test.YtmlcdbjibngnkaaEs
namespace Go.Proofs.Ytmlcdbjibngnkaa
open Go.RowKit
set_option linter.unusedVariables false

theorem rep_vec (m : Nat) : List.replicate m (0 : Int) = vec m (fun _ => 0) := by
  apply List.ext_getElem
  · simp
  · intro i h1 h2; simp [vec]

set_option maxHeartbeats 4000000 in
/-- The product. -/
theorem smul (p k a b : Nat) (xs : List Int) (v : Value) (g : Nat) (w : World) (hf : Fd w g p k v) (hv : IntsAt w v xs) (h : FOk p k xs) (ha : a < p ^ k) (hb : b < p ^ k) :
    Calls Try.prog 66 #[.pointer (some ⟨g, 0, none⟩), .int .i64 a, .int .i64 b] w fun e w' => e = .returned (.int .i64 (fmul p k (cofs xs) a b)) ∧ Below w.heap.size w w' := by
  obtain ⟨hp, hp', hk6⟩ := h.bd
  have hk := h.2.1
  have hq := h.2.2.1
  obtain ⟨c0, c1, c2⟩ := hf.cells
  have RA := Lib.hid (dg_rd p a k (by omega) ha)
  have RB := Lib.hid (dg_rd p b k (by omega) hb)
  have RF := Lib.hid h.rd
  have R1 : Hid (cofs xs k = 1) := h.2.2.2.2.1
  have HDa := Lib.hid (fun W : World => sdigits a p k W hp hp' (by omega) (by omega))
  have HDb := Lib.hid (fun W : World => sdigits b p k W hp hp' (by omega) (by omega))
  have HNu := Lib.hid (fun (c : Co) (u : Value) (W : World) (hu : IntsAt W u (vec k c)) (hc : ∀ i, 0 ≤ c i ∧ c i < p) => snumber p k c u W hu hp hp' hc (by omega) (by omega))
  have HV : Hid (∀ W : World, Below w.heap.size w W → IntsAt W v (vec (k + 1) (cofs xs))) := fun W hw => by
    rw [← vec_cofs xs (k + 1) h.2.2.2.1]
    exact hv.below hw (Nat.le_refl _)
  have HRe := Lib.hid (fun (L : Nat) (c : Co) (u : Value) (W : World) (hw : Below w.heap.size w W) (hu : IntsAt W u (vec L c)) (h1 : 1 ≤ L) (h2 : L ≤ 12) (hc : Rd p L c) => srest p k L c (cofs xs) u v W hu (HV.out W hw) hp hp' hk hk6 h1 h2 hc (fun i => ⟨(h.rd i).1, (h.rd i).2.1⟩))
  have HF := Lib.hid hf
  have z1 : ¬ (p : Int) = 0 := by omega
  obtain ⟨m, hm⟩ : ∃ m, 2 * k - 1 = m := ⟨_, rfl⟩
  have em : 2 * (k : Int) - 1 = (m : Int) := by omega
  have hmk := fun W : World => run_make_row' (P := Try.prog) 23 2 (.int .i64 0) 8 Try.underlying23 Try.infoInt rfl .i64 .i64 m (by omega) (by omega) W
  have hrow0 : Hid (∀ W : World, Ints (W.alloc (.cells (madeCells #[.int .i64 0] m) 2)) W.heap.size (.slice (some ⟨W.heap.size, 0, none⟩) m m) (vec m (fun _ => 0))) := fun W => by
    have := World.ownsRow_lit (base := W.heap.size) (e := 2) (size := 1) W (madeCells #[.int .i64 0] m) m (Nat.le_refl _) (by unfold maxLen; omega) (by simp [size_madeCells])
    rw [toList_madeCells_one] at this
    unfold Ints
    rw [vec_length, ← rep_vec]
    simpa using this
  have HM := Lib.hid hm
  clear hf ha hb h hv hm
  go_enter Try.func66, Try.ntmps66
  go_wp2
  have S0 : Hid (Sp w g p k v w.drew) := ⟨HF.out, (Below.refl _ _).drew⟩
  go_region_held3 (fun w' => w'.cell? ⟨g, 0, none⟩ = some (.int .i64 p) ∧ w'.cell? ⟨g, 1, none⟩ = some (.int .i64 k) ∧ w'.cell? ⟨g, 2, none⟩ = some v ∧ Hid (Sp w g p k v w')) (first | exact held3 (by assumption))
    (first | (go_at_call 86; refine (HDa.out _).mono ?_; rintro e w1 ⟨v1, rfl, i1, b1⟩; have S1 := Sp.next (by assumption) b1; have J1 := Lib.hid i1; have B1 := Lib.hid b1))
  go_wp2
  have S1d := Sp.drew S1
  go_region_held3 (fun w' => w'.cell? ⟨g, 0, none⟩ = some (.int .i64 p) ∧ w'.cell? ⟨g, 1, none⟩ = some (.int .i64 k) ∧ w'.cell? ⟨g, 2, none⟩ = some v ∧ Hid (Sp w g p k v w')) (first | exact held3 (by assumption))
    (first | (go_at_call 86; refine (HDb.out _).mono ?_; rintro e w2 ⟨v2, rfl, i2, b2⟩; have S2 := Sp.next S1d b2; have J2 := Lib.hid i2; have B2 := Lib.hid b2))
  obtain ⟨g1, cap1, rfl⟩ : ∃ g1 cap1, v1 = .slice (some ⟨g1, 0, none⟩) k cap1 := by have := J1.out.form (by rw [vec_length]; omega); rwa [vec_length] at this
  obtain ⟨g2, cap2, rfl⟩ : ∃ g2 cap2, v2 = .slice (some ⟨g2, 0, none⟩) k cap2 := by have := J2.out.form (by rw [vec_length]; omega); rwa [vec_length] at this
  have hg1 := J1.out.base
  have hg2 := J2.out.base
  have X2 : Hid (∀ j, j < k → w2.cell? ⟨g1, j, none⟩ = some (.int .i64 (dg p a j))) := fun j hj => by
    have j1 : Ints w1.drew w.drew.heap.size (.slice (some ⟨g1, 0, none⟩) k cap1) (vec k (dg p a)) := J1.out
    have := (j1.below B2.out (Nat.le_refl _)).cell j (by rw [vec_length]; exact hj)
    rwa [vec_getD _ _ _ hj] at this
  have Y2 : Hid (∀ j, j < k → w2.cell? ⟨g2, j, none⟩ = some (.int .i64 (dg p b j))) := fun j hj => by
    have := J2.out.cell j (by rw [vec_length]; exact hj)
    rwa [vec_getD _ _ _ hj] at this
  have hsz : g < w2.heap.size ∧ g1 < w2.heap.size ∧ g2 < w2.heap.size ∧ w.heap.size ≤ w2.heap.size := ⟨S2.out.1.lt, World.block_lt_of_cell? _ _ (X2.out 0 (by omega)), World.block_lt_of_cell? _ _ (Y2.out 0 (by omega)), S2.out.2.size⟩
  obtain ⟨s1, s2, s3, s4⟩ := hsz
  clear J1 J2 B1 B2 S1 S1d S0 HDa HDb hg1 hg2
  obtain ⟨d0, d1, d2⟩ := S2.out.1.cells
  go_upto_region 4 with fail
  have Z3 := Lib.hid (hrow0.out w2)
  have S3 : Hid (Sp w g p k v (w2.alloc (.cells (madeCells #[.int .i64 0] m) 2))) := Sp.next S2 ((Below.refl _ _).alloc (Nat.le_refl _) _)
  have X3 : Hid (∀ j, j < k → (w2.alloc (.cells (madeCells #[.int .i64 0] m) 2)).cell? ⟨g1, j, none⟩ = some (.int .i64 (dg p a j))) := fun j hj => by
    rw [World.cell?_of_block (heap_alloc_old w2 _ s2)]; exact X2.out j hj
  have Y3 : Hid (∀ j, j < k → (w2.alloc (.cells (madeCells #[.int .i64 0] m) 2)).cell? ⟨g2, j, none⟩ = some (.int .i64 (dg p b j))) := fun j hj => by
    rw [World.cell?_of_block (heap_alloc_old w2 _ s3)]; exact Y2.out j hj
  obtain ⟨gz, hgz⟩ : ∃ gz, w2.heap.size = gz := ⟨_, rfl⟩
  obtain ⟨w3, hw3⟩ : ∃ w3, w2.alloc (.cells (madeCells #[.int .i64 0] m) 2) = w3 := ⟨_, rfl⟩
  rw [hw3] at Z3 S3 X3 Y3 ⊢
  rw [hgz] at Z3 s1 s2 s3 s4 ⊢
  clear hw3 hgz X2 Y2 S2 d0 d1 d2 hmk hrow0
  go_wp2
  go_loopw [10] (fun i wr => ∃ j : Nat, j ≤ k ∧ i = .int .i64 j ∧ Hid (Ints wr gz (.slice (some ⟨gz, 0, none⟩) m m) (vec m (prod p (dg p a) (dg p b) k j))) ∧ Hid (∀ j, j < k → wr.cell? ⟨g1, j, none⟩ = some (.int .i64 (dg p a j))) ∧ Hid (∀ j, j < k → wr.cell? ⟨g2, j, none⟩ = some (.int .i64 (dg p b j))) ∧ Hid (Sp w g p k v wr)) (fun i _ => k - (intOf i).toNat)
  case atStart => exact ⟨0, by omega, rfl, Z3, X3, Y3, S3⟩
  case round =>
    obtain ⟨i, hi, rfl, hZ, hX, hY, hS⟩ := hrel
    by_cases hlt : i < k
    · obtain ⟨x, hx⟩ : ∃ x, dg p a i = x := ⟨_, rfl⟩
      obtain ⟨x0, x1, -⟩ := RA.out i
      rw [hx] at x0 x1
      have HX := Lib.hid hx
      have i1 : (0 : Int) ≤ (i : Int) := by omega
      have i2 : (i : Int) < (k : Int) := by omega
      have R0 : Hid (Rd p m (prod p (dg p a) (dg p b) k i)) := prod_rd (by omega) m i (by have := HM.out; omega)
      clear hx
      obtain ⟨wq, rfl⟩ : ∃ wq : World, wq = wr := ⟨_, rfl⟩
      go_wp2
      go_loopw [11] (fun u wr => ∃ j : Nat, j ≤ k ∧ u = .int .i64 j ∧ Hid (Ints wr gz (.slice (some ⟨gz, 0, none⟩) m m) (vec m (prow p x (dg p b) i j (prod p (dg p a) (dg p b) k i)))) ∧ Hid (∀ j, j < k → wr.cell? ⟨g1, j, none⟩ = some (.int .i64 (dg p a j))) ∧ Hid (∀ j, j < k → wr.cell? ⟨g2, j, none⟩ = some (.int .i64 (dg p b j))) ∧ Hid (Sp w g p k v wr)) (fun u _ => k - (intOf u).toNat)
      case atStart => exact ⟨0, by omega, rfl, by rw [prow_zero]; exact hZ, hX, hY, hS⟩
      case round =>
        obtain ⟨j, hj, rfl, hZ2, hX2, hY2, hS2⟩ := hrel
        by_cases hlj : j < k
        · obtain ⟨f0, f1, f2⟩ := hS2.out.1.cells
          have j1 : (0 : Int) ≤ (j : Int) := by omega
          have j2 : (j : Int) < (k : Int) := by omega
          obtain ⟨y, hy⟩ : ∃ y, dg p b j = y := ⟨_, rfl⟩
          obtain ⟨q, hq'⟩ : ∃ q : Nat, i + j = q := ⟨_, rfl⟩
          obtain ⟨z, hz⟩ : ∃ z, prow p x (dg p b) i j (prod p (dg p a) (dg p b) k i) q = z := ⟨_, rfl⟩
          obtain ⟨y0, y1, -⟩ := RB.out j
          rw [hy] at y0 y1
          obtain ⟨z0, z2, -⟩ := prow_rd (x := x) (y := dg p b) (i := i) (n := j) (by omega) R0.out (by have := HM.out; omega) q
          rw [hz] at z0 z2
          obtain ⟨m0, m1, -⟩ := mod2 p hp hp' x y z x0 x1 y0 y1 z0 z2
          have e1 : (i : Int) + (j : Int) = (q : Int) := by omega
          have k1 : (0 : Int) ≤ (q : Int) := by omega
          have k2 : (q : Int) < (m : Int) := by have := HM.out; omega
          have cx : wr.cell? ⟨g1, i, none⟩ = some (.int .i64 x) := by rw [hX2.out i hlt, HX.out]
          have cy : wr.cell? ⟨g2, j, none⟩ = some (.int .i64 y) := by rw [hY2.out j hlj, hy]
          have cz : wr.cell? ⟨gz, q, none⟩ = some (.int .i64 z) := by
            have := hZ2.out.cell q (by rw [vec_length]; omega)
            rw [vec_getD _ _ _ (by omega), hz] at this
            exact this
          have fz := hZ2.out.frozen q
          have w1' := wrapk' (n := x * y) (by omega)
          have w2' := wrapk' (n := z + x * y) (by omega)
          have w3' := wrapk' (n := (q : Int)) (by omega)
          have N0 : Hid (Ints (wr.setCell ⟨gz, q, none⟩ (.int .i64 ((z + x * y) % p))) gz (.slice (some ⟨gz, 0, none⟩) m m) (vec m (prow p x (dg p b) i (j + 1) (prod p (dg p a) (dg p b) k i)))) := by
            have := hZ2.out.stored (vec_length _ _) q ((z + x * y) % p)
            rw [vec_set] at this
            rw [prow_succ, hq', hz, hy]
            exact this
          have N1 : Hid (∀ i, i < k → (wr.setCell ⟨gz, q, none⟩ (.int .i64 ((z + x * y) % p))).cell? ⟨g1, i, none⟩ = some (.int .i64 (dg p a i))) := fun i hi => by
            rw [World.cell?_of_block (heap_setCell_other wr ⟨gz, q, none⟩ g1 _ (by show g1 ≠ gz; omega))]
            exact hX2.out i hi
          have N2 : Hid (∀ i, i < k → (wr.setCell ⟨gz, q, none⟩ (.int .i64 ((z + x * y) % p))).cell? ⟨g2, i, none⟩ = some (.int .i64 (dg p b i))) := fun i hi => by
            rw [World.cell?_of_block (heap_setCell_other wr ⟨gz, q, none⟩ g2 _ (by show g2 ≠ gz; omega))]
            exact hY2.out i hi
          have N3 : Hid (Sp w g p k v (wr.setCell ⟨gz, q, none⟩ (.int .i64 ((z + x * y) % p)))) := ⟨hS2.out.1.other (by omega) _ _, hS2.out.2.setCell s4 _⟩
          clear hy hz hq'
          go_wp2
          go_region
          go_wp2
          go_roundw
          case rel => exact ⟨j + 1, by omega, by go_num, N0, N1, N2, Sp.drew N3⟩
          case measure => simp [intOf]; omega
        · obtain rfl : j = k := by omega
          go_wp2
          go_roundw
          case rel => exact ⟨i + 1, by omega, by go_num, by rw [prod, HX.out]; exact hZ2, hX2, hY2, hS2⟩
          case measure => simp [intOf]; omega
    · obtain rfl : i = k := by omega
      have A1 : Hid (IntsAt wr (.slice (some ⟨gz, 0, none⟩) m m) (vec m (prod p (dg p a) (dg p b) i i))) := hZ.out.at
      have PR : Hid (Rd p m (prod p (dg p a) (dg p b) i i)) := prod_rd (by omega) m i (by have := HM.out; omega)
      have RR : Hid (Rd p i (red p (cofs xs) i (m - i) (prod p (dg p a) (dg p b) i i))) := red_rd (by omega) R1.out _ _ (by rw [show i + (m - i) = m by have := HM.out; omega]; exact PR.out)
      have EV : Hid (num p (red p (cofs xs) i (m - i) (prod p (dg p a) (dg p b) i i)) i 0 = fmul p i (cofs xs) a b) := by
        unfold Hid fmul
        rw [show m - i = i - 1 by have := HM.out; omega]
      have hmin : Hid (min m i = i) := by unfold Hid; have := HM.out; omega
      have m1' : 1 ≤ m := by have := HM.out; omega
      have m12 : m ≤ 12 := by have := HM.out; omega
      have T0 : Hid (Sp w g p i v wr.drew ∧ IntsAt wr.drew (.slice (some ⟨gz, 0, none⟩) m m) (vec m (prod p (dg p a) (dg p b) i i))) := ⟨(Sp.drew hS).out, A1.out⟩
      have T1 : Hid (Sp w g p i v wr.drew) := Lib.hid T0.out.1
      clear hX hY hZ X3 Y3 Z3 S3
      go_wp2
      go_region_held3 (fun w' => w'.cell? ⟨g, 0, none⟩ = some (.int .i64 p) ∧ w'.cell? ⟨g, 1, none⟩ = some (.int .i64 i) ∧ w'.cell? ⟨g, 2, none⟩ = some v ∧ Hid (Sp w g p i v w')) (first | exact held3 (by assumption))
        (first | (go_at_call 99; refine (HRe.out m _ _ _ T0.out.1.2 T0.out.2 m1' m12 PR.out).mono ?_; rintro e w5 ⟨v5, rfl, i5, b5⟩; have S5 := Sp.next T1 b5; have I5 : Hid (IntsAt w5 v5 (vec i (red p (cofs xs) i (m - i) (prod p (dg p a) (dg p b) i i)))) := (by have := i5.at; rwa [hmin.out] at this)) | (go_at_call 98; refine (HNu.out _ _ _ I5.out (fun i => ⟨(RR.out i).1, (RR.out i).2.1⟩)).mono ?_; rintro e w6 ⟨rfl, rfl⟩))
      go_wp2
      go_ret
      exact ⟨ret_i _ _ EV.out, S5.out.2⟩
end Go.Proofs.Ytmlcdbjibngnkaa
