/- Elements of a field, by the model. -/
import Derived.Test.YtmlcdbjibngnkaaLf
namespace Go.Proofs.Ytmlcdbjibngnkaa
open Go.RowKit
set_option linter.unusedVariables false

theorem ssize (p k : Nat) (v : Value) (g : Nat) (w : World) (hf : Fd w g p k v) (hp : p ≤ 64) (hk : k ≤ 6) :
    Calls Try.prog 56 #[.pointer (some ⟨g, 0, none⟩)] w fun e w' => e = .returned (.int .i64 ((p ^ k : Nat) : Int)) ∧ ∃ n, w' = w.drewN n := by
  obtain ⟨c0, c1, c2⟩ := hf.cells
  have HPw := Lib.hid (fun W : World => spower p k W hp hk)
  clear hf
  go_enter Try.func56, Try.ntmps56
  go_wp2
  go_quiet ((go_at_call 88; first | with_reducible exact Calls.quiet_of_same (HPw.out _) | with_reducible exact quiet_same2 (HPw.out _)))
  go_wp2
  go_ret
  exact ⟨rfl, _, rfl⟩

/-- Whether two numbers are elements of a valid field. -/
noncomputable def hasB (P K : Int) (xs : List Int) (a b : Int) : Bool := fok P K xs && (decide (0 ≤ a ∧ a < fsz P K) && decide (0 ≤ b ∧ b < fsz P K))
theorem fsz_ok {p k : Nat} {xs : List Int} (h : FOk p k xs) : fsz p k = ((p ^ k : Nat) : Int) := by
  unfold fsz
  rw [if_pos ⟨h.1, by have := h.2.1; omega, by simpa using h.2.2.1⟩]
  simp

set_option maxHeartbeats 1000000 in
theorem shas (P K : Int) (xs : List Int) (v : Value) (g : Nat) (w : World) (a b : Int) (hf : Fd w g P K v) (hv : IntsAt w v xs) :
    Calls Try.prog 65 #[.pointer (some ⟨g, 0, none⟩), .int .i64 a, .int .i64 b] w fun e w' => e = .returned (.bool (hasB P K xs a b)) ∧ Below w.heap.size w w' := by
  have HO := Lib.hid (sok P K xs v g w hf hv)
  by_cases hk : fok P K xs = true
  · obtain ⟨p, k, rfl, rfl, h⟩ := fok_int hk
    have hb := h.bd
    rw [hk] at HO
    have HS := Lib.hid (fun (W : World) (hw : Below w.heap.size w W) => ssize p k v g W (hf.below hw hf.lt) hb.2.1 hb.2.2)
    have hV : Hid (hasB p k xs a b = (decide (0 ≤ a ∧ a < fsz p k) && decide (0 ≤ b ∧ b < fsz p k))) := by unfold Hid hasB; rw [hk, Bool.true_and]
    rw [fsz_ok h] at hV
    obtain ⟨q, hq⟩ : ∃ q, p ^ k = q := ⟨_, rfl⟩
    have hq64 : q ≤ 64 := by rw [← hq]; exact h.2.2.1
    rw [hq] at HS hV
    clear hf hv hk hb h hq
    have w1 := wrapk' (n := (q : Int) - 1) (by omega)
    by_cases ha : 0 ≤ a ∧ a ≤ (q : Int) - 1
    · have HA := Lib.hid (fun W : World => in_yes a 0 ((q : Int) - 1) W ha.1 ha.2)
      by_cases hb : 0 ≤ b ∧ b ≤ (q : Int) - 1
      · have HB := Lib.hid (fun W : World => in_yes b 0 ((q : Int) - 1) W hb.1 hb.2)
        have E : Hid (hasB p k xs a b = true) := by unfold Hid; rw [hV.out, decide_eq_true (by omega), decide_eq_true (by omega)]; rfl
        clear ha hb hV
        go_enter Try.func65, Try.ntmps65
        go_wp2_with (first | (go_at_call 58; refine HO.out.mono ?_; rintro e w1 ⟨rfl, b1⟩; have B1 := Lib.hid b1; clear b1) | (go_at_call 56; refine (HS.out _ (by first | exact B1.out | exact B2.out)).mono ?_; rintro e w2 ⟨rfl, m, rfl⟩; have B2 := Lib.hid (belowN B1.out m)) | (go_at_call 90; (first | (with_reducible refine (HA.out _).mono ?_) | (with_reducible refine (HB.out _).mono ?_)); rintro e w3 ⟨rfl, rfl⟩))
        go_ret
        exact ⟨ret_b _ _ E.out.symm, by first | exact B2.out | exact belowN B1.out _⟩
      · have HB := Lib.hid (fun W : World => in_no b 0 ((q : Int) - 1) W (by omega))
        have E : Hid (hasB p k xs a b = false) := by unfold Hid; rw [hV.out, decide_eq_true (by omega), decide_eq_false (by omega)]; rfl
        clear ha hb hV
        go_enter Try.func65, Try.ntmps65
        go_wp2_with (first | (go_at_call 58; refine HO.out.mono ?_; rintro e w1 ⟨rfl, b1⟩; have B1 := Lib.hid b1; clear b1) | (go_at_call 56; refine (HS.out _ (by first | exact B1.out | exact B2.out)).mono ?_; rintro e w2 ⟨rfl, m, rfl⟩; have B2 := Lib.hid (belowN B1.out m)) | (go_at_call 90; (first | (with_reducible refine (HA.out _).mono ?_) | (with_reducible refine (HB.out _).mono ?_)); rintro e w3 ⟨rfl, rfl⟩))
        go_ret
        exact ⟨ret_b _ _ E.out.symm, by first | exact B2.out | exact belowN B1.out _⟩
    · have HA := Lib.hid (fun W : World => in_no a 0 ((q : Int) - 1) W (by omega))
      have HB := HA
      have E : Hid (hasB p k xs a b = false) := by unfold Hid; rw [hV.out, decide_eq_false (by omega)]; rfl
      clear ha hV
      go_enter Try.func65, Try.ntmps65
      go_wp2_with (first | (go_at_call 58; refine HO.out.mono ?_; rintro e w1 ⟨rfl, b1⟩; have B1 := Lib.hid b1; clear b1) | (go_at_call 56; refine (HS.out _ (by first | exact B1.out | exact B2.out)).mono ?_; rintro e w2 ⟨rfl, m, rfl⟩; have B2 := Lib.hid (belowN B1.out m)) | (go_at_call 90; (first | (with_reducible refine (HA.out _).mono ?_) | (with_reducible refine (HB.out _).mono ?_)); rintro e w3 ⟨rfl, rfl⟩))
      go_ret
      exact ⟨ret_b _ _ E.out.symm, by first | exact B2.out | exact belowN B1.out _⟩
  · rw [Bool.not_eq_true] at hk
    rw [hk] at HO
    have E : Hid (hasB P K xs a b = false) := by unfold Hid hasB; rw [hk]; rfl
    clear hf hv hk
    go_enter Try.func65, Try.ntmps65
    go_wp2_with (go_at_call 58; refine HO.out.mono ?_; rintro e w1 ⟨rfl, b1⟩; have B1 := Lib.hid b1; clear b1)
    go_ret
    exact ⟨ret_b _ _ E.out.symm, B1.out⟩

/-- The worlds of a walk over a field that lies in block g. -/
def Sp (w : World) (g : Nat) (P K : Int) (v : Value) (w' : World) : Prop := Fd w' g P K v ∧ Below w.heap.size w w'
theorem Sp.next {w : World} {g : Nat} {P K : Int} {v : Value} {w1 w2 : World} (h : Hid (Sp w g P K v w1)) (hb : Below w1.heap.size w1 w2) : Hid (Sp w g P K v w2) :=
  ⟨(hb.block g h.out.1.lt).trans h.out.1, h.out.2.trans (hb.mono h.out.2.size)⟩
theorem held3 {w : World} {g : Nat} {P K : Int} {v : Value} {w' : World} (h : Hid (Sp w g P K v w')) : w'.cell? ⟨g, 0, none⟩ = some (.int .i64 P) ∧ w'.cell? ⟨g, 1, none⟩ = some (.int .i64 K) ∧ w'.cell? ⟨g, 2, none⟩ = some v ∧ Hid (Sp w g P K v w') := by
  obtain ⟨a0, a1, a2⟩ := h.out.1.cells
  exact ⟨a0, a1, a2, h⟩
theorem Sp.drew {w : World} {g : Nat} {P K : Int} {v : Value} {w1 : World} (h : Hid (Sp w g P K v w1)) : Hid (Sp w g P K v w1.drew) := Sp.next h (Below.refl _ _).drew

theorem num_ext (p : Int) (c d : Co) (n : Nat) (h : ∀ i, i < n → c i = d i) : num p c n 0 = num p d n 0 := num_congr p c d n 0 (fun j _ hj => h j (by omega))

theorem tmod_sum (p : Nat) (hp : 2 ≤ p) (hp' : p ≤ 64) (x y s : Int) (x0 : 0 ≤ x) (x1 : x < p) (y0 : 0 ≤ y) (y1 : y < p) (s0 : 0 ≤ s) (s1 : s < p) : 0 ≤ s * y ∧ s * y ≤ 4096 := by
  have h0 : 0 ≤ s * y := Int.mul_nonneg s0 y0
  have h1 : s * y ≤ 64 * 64 := Int.mul_le_mul (by omega) (by omega) y0 (by omega)
  exact ⟨h0, by omega⟩

set_option maxHeartbeats 2000000 in
/-- a + s b. -/
theorem ssum (p k a b : Nat) (s : Int) (v : Value) (g : Nat) (w : World) (hf : Fd w g p k v) (hp : 2 ≤ p) (hp' : p ≤ 64) (hk : 1 ≤ k) (hk6 : k ≤ 6) (hq : p ^ k ≤ 64) (ha : a < p ^ k) (hb : b < p ^ k) (s0 : 0 ≤ s) (s1 : s < p) :
    Calls Try.prog 68 #[.pointer (some ⟨g, 0, none⟩), .int .i64 a, .int .i64 b, .int .i64 s] w fun e w' => e = .returned (.int .i64 (num p (fun i => (dg p a i + s * dg p b i) % p) k 0)) ∧ Below w.heap.size w w' := by
  obtain ⟨c0, c1, c2⟩ := hf.cells
  have RA := Lib.hid (dg_rd p a k (by omega) ha)
  have RB := Lib.hid (dg_rd p b k (by omega) hb)
  have HDa := Lib.hid (fun W : World => sdigits a p k W hp hp' (by omega) (by omega))
  have HDb := Lib.hid (fun W : World => sdigits b p k W hp hp' (by omega) (by omega))
  have HNu := Lib.hid (fun (c : Co) (u : Value) (W : World) (hu : IntsAt W u (vec k c)) (hc : ∀ i, 0 ≤ c i ∧ c i < p) => snumber p k c u W hu hp hp' hc (by omega) (by omega))
  have HF := Lib.hid hf
  have z1 : ¬ (p : Int) = 0 := by omega
  clear hf ha hb hq
  go_enter Try.func68, Try.ntmps68
  go_wp2
  have S0 : Hid (Sp w g p k v w.drew) := ⟨HF.out, (Below.refl _ _).drew⟩
  go_region_held3 (fun w' => w'.cell? ⟨g, 0, none⟩ = some (.int .i64 p) ∧ w'.cell? ⟨g, 1, none⟩ = some (.int .i64 k) ∧ w'.cell? ⟨g, 2, none⟩ = some v ∧ Hid (Sp w g p k v w')) (first | exact held3 (by assumption))
    (first | (go_at_call 86; refine (HDa.out _).mono ?_; rintro e w1 ⟨v1, rfl, i1, b1⟩; have S1 := Sp.next (by assumption) b1; have J1 := Lib.hid i1; have B1 := Lib.hid b1))
  go_wp2
  have S1d := Sp.drew S1
  go_region_held3 (fun w' => w'.cell? ⟨g, 0, none⟩ = some (.int .i64 p) ∧ w'.cell? ⟨g, 1, none⟩ = some (.int .i64 k) ∧ w'.cell? ⟨g, 2, none⟩ = some v ∧ Hid (Sp w g p k v w')) (first | exact held3 (by assumption))
    (first | (go_at_call 86; refine (HDb.out _).mono ?_; rintro e w2 ⟨v2, rfl, i2, b2⟩; have S2 := Sp.next S1d b2; have J2 := Lib.hid i2; have B2 := Lib.hid b2))
  obtain ⟨g1, cap1, rfl⟩ : ∃ g1 cap1, v1 = .slice (some ⟨g1, 0, none⟩) k cap1 := by have := J1.out.form (by rw [vec_length]; omega); rwa [vec_length] at this
  obtain ⟨g2, cap2, rfl⟩ : ∃ g2 cap2, v2 = .slice (some ⟨g2, 0, none⟩) k cap2 := by have := J2.out.form (by rw [vec_length]; omega); rwa [vec_length] at this
  have hg1 := J1.out.base
  have hg2 := J2.out.base
  have e0 : w.drew.heap.size = w.heap.size := rfl
  have e1 : w1.drew.heap.size = w1.heap.size := rfl
  rw [e0] at hg1
  rw [e1] at hg2
  have I2 : Hid (Ints w2 w.heap.size (.slice (some ⟨g1, 0, none⟩) k cap1) (vec k (dg p a))) := by
    have j1 : Ints w1.drew w.drew.heap.size (.slice (some ⟨g1, 0, none⟩) k cap1) (vec k (dg p a)) := J1.out
    have := j1.below B2.out (Nat.le_refl _)
    exact this.mono (by rw [e0]; exact Nat.le_refl _)
  have Y2 : Hid (∀ j, j < k → w2.cell? ⟨g2, j, none⟩ = some (.int .i64 (dg p b j))) := fun j hj => by
    have := J2.out.cell j (by rw [vec_length]; exact hj)
    rwa [vec_getD _ _ _ hj] at this
  have hne : g2 ≠ g1 := by omega
  have hne2 : g ≠ g1 := by have := HF.out.lt; omega
  have hw0 : w.heap.size ≤ g1 := hg1.1
  clear J1 J2 B1 B2 S1 S1d S0 HDa HDb e0 e1 hg1 hg2
  obtain ⟨d0, d1, d2⟩ := S2.out.1.cells
  go_wp2
  go_loopw [11] (fun i wr => ∃ j : Nat, j ≤ k ∧ i = .int .i64 j ∧ Hid (Ints wr w.heap.size (.slice (some ⟨g1, 0, none⟩) k cap1) (vec k (fun i => if i < j then (dg p a i + s * dg p b i) % p else dg p a i))) ∧ Hid (∀ j, j < k → wr.cell? ⟨g2, j, none⟩ = some (.int .i64 (dg p b j))) ∧ Hid (Sp w g p k v wr)) (fun i _ => k - (intOf i).toNat)
  case atStart => exact ⟨0, by omega, rfl, by rw [vec_congr k _ (dg p a) (fun i _ => by rw [if_neg (by omega)])]; exact I2, Y2, S2⟩
  case round =>
    obtain ⟨j, hj, rfl, hI, hY, hS⟩ := hrel
    obtain ⟨f0, f1, f2⟩ := hS.out.1.cells
    by_cases hlt : j < k
    · obtain ⟨x, hx⟩ : ∃ x, dg p a j = x := ⟨_, rfl⟩
      obtain ⟨y, hy⟩ : ∃ y, dg p b j = y := ⟨_, rfl⟩
      obtain ⟨x0, x1, -⟩ := RA.out j
      obtain ⟨y0, y1, -⟩ := RB.out j
      rw [hx] at x0 x1
      rw [hy] at y0 y1
      obtain ⟨m0, m1⟩ := tmod_sum p hp hp' x y s x0 x1 y0 y1 s0 s1
      have j0 : (0 : Int) ≤ (j : Int) := by omega
      have j1 : (j : Int) < (k : Int) := by omega
      have cx : wr.cell? ⟨g1, j, none⟩ = some (.int .i64 x) := by
        have := hI.out.cell j (by rw [vec_length]; exact hlt)
        rw [vec_getD _ _ _ hlt, if_neg (by omega), hx] at this
        exact this
      have cy : wr.cell? ⟨g2, j, none⟩ = some (.int .i64 y) := by rw [hY.out j hlt, hy]
      have fx := hI.out.frozen j
      have w1' := wrapk' (n := s * y) (by omega)
      have w2' := wrapk' (n := x + s * y) (by omega)
      have N1 : Hid (Ints (wr.setCell ⟨g1, j, none⟩ (.int .i64 ((x + s * y) % p))) w.heap.size (.slice (some ⟨g1, 0, none⟩) k cap1) (vec k (fun i => if i < j + 1 then (dg p a i + s * dg p b i) % p else dg p a i))) := by
        have := hI.out.stored (vec_length _ _) j ((x + s * y) % p)
        rw [vec_set] at this
        rw [vec_congr k _ _ (fun i _ => ?_)]
        · exact this
        · unfold upd
          by_cases e : i = j
          · subst e; rw [if_pos rfl, if_pos (by omega), hx, hy]
          · rw [if_neg e]
            show _ = (if i < j then (dg p a i + s * dg p b i) % p else dg p a i)
            by_cases h : i < j
            · rw [if_pos h, if_pos (by omega)]
            · rw [if_neg h, if_neg (by omega)]
      have N2 : Hid (∀ i, i < k → (wr.setCell ⟨g1, j, none⟩ (.int .i64 ((x + s * y) % p))).cell? ⟨g2, i, none⟩ = some (.int .i64 (dg p b i))) := fun i hi => by
        rw [World.cell?_of_block (heap_setCell_other wr ⟨g1, j, none⟩ g2 _ hne)]
        exact hY.out i hi
      have N3 : Hid (Sp w g p k v (wr.setCell ⟨g1, j, none⟩ (.int .i64 ((x + s * y) % p)))) := ⟨hS.out.1.other hne2 _ _, hS.out.2.setCell hw0 _⟩
      clear hx hy
      go_wp2
      go_region
      go_wp2
      go_roundw
      case rel => exact ⟨j + 1, by omega, by go_num, N1, N2, Sp.drew N3⟩
      case measure => simp [intOf]; omega
    · obtain rfl : j = k := by omega
      have A1 : Hid (IntsAt wr (.slice (some ⟨g1, 0, none⟩) j cap1) (vec j (fun i => (dg p a i + s * dg p b i) % p))) := by
        have := hI.out.at
        rwa [vec_congr j _ (fun i => (dg p a i + s * dg p b i) % p) (fun i hi => by rw [if_pos hi])] at this
      have hmod : Hid (∀ i, 0 ≤ (dg p a i + s * dg p b i) % p ∧ (dg p a i + s * dg p b i) % p < p) := fun i => ⟨Int.emod_nonneg _ (by omega), Int.emod_lt_of_pos _ (by omega)⟩
      go_wp2_with (go_at_call 98; refine (HNu.out _ _ _ A1.out hmod.out).mono ?_; rintro e w' ⟨rfl, rfl⟩)
      go_ret
      exact ⟨rfl, hS.out.2⟩
end Go.Proofs.Ytmlcdbjibngnkaa
