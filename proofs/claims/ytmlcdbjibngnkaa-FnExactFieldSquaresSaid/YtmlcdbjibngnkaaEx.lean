/- The exported functions on elements, both sides. -/
import Derived.Test.YtmlcdbjibngnkaaPo
namespace Go.Proofs.Ytmlcdbjibngnkaa
open Go.RowKit
set_option linter.unusedVariables false

/-- Whether a number is an element of a valid field. -/
noncomputable def has1 (P K : Int) (xs : List Int) (a : Int) : Bool := fok P K xs && decide (0 ≤ a ∧ a < fsz P K)
theorem has1_int {P K a : Int} {xs : List Int} (h : has1 P K xs a = true) : ∃ p k x : Nat, P = p ∧ K = k ∧ a = x ∧ FOk p k xs ∧ x < p ^ k := by
  unfold has1 at h
  simp only [Bool.and_eq_true, decide_eq_true_eq] at h
  obtain ⟨h1, h4, h5⟩ := h
  obtain ⟨p, k, rfl, rfl, hf⟩ := fok_int h1
  rw [fsz_ok hf] at h5
  exact ⟨p, k, a.toNat, rfl, rfl, by omega, hf, by omega⟩
theorem has_has1 (P K : Int) (xs : List Int) (a : Int) : hasB P K xs a 0 = has1 P K xs a := by
  unfold hasB has1
  by_cases hk : fok P K xs = true
  · obtain ⟨p, k, rfl, rfl, hf⟩ := fok_int hk
    rw [hk, Bool.true_and, Bool.true_and, fsz_ok hf, decide_eq_true (show (0 : Int) ≤ 0 ∧ (0 : Int) < ((p ^ k : Nat) : Int) by have := Nat.pow_pos (n := k) (show 0 < p by have := hf.bd; omega); omega), Bool.and_true]
  · rw [Bool.not_eq_true] at hk
    rw [hk]; rfl
noncomputable def aInv (P K x0 : Int) (xs : List Int) : Int := if has1 P K xs x0 = true ∧ x0 ≠ 0 then (invF P.toNat K.toNat (cofs xs) x0.toNat : Nat) else -1
set_option maxHeartbeats 1000000 in
theorem sFieldInverse (P K x0 : Int) (xs : List Int) (v : Value) (w : World) (hv : IntsAt w v xs) :
    Calls Try.prog 45 #[.agg #[.int .i64 P, .int .i64 K, v], .int .i64 x0] w fun e w' => e = .returned (.int .i64 (aInv P K x0 xs)) ∧ Below w.heap.size w w' := by
  have B1 : Hid (Below w.heap.size w (w.alloc (.cells #[.int .i64 P, .int .i64 K, v] 25))) := (Below.refl _ _).alloc (Nat.le_refl _) _
  have HS := Lib.hid (shas P K xs v w.heap.size (w.alloc (.cells #[.int .i64 P, .int .i64 K, v] 25)) x0 0 (Fd.new w P K v) (hv.below B1.out (Nat.le_refl _)))
  rw [has_has1] at HS
  have F1 := Lib.hid (Fd.new w P K v)
  have V1 : Hid (IntsAt (w.alloc (.cells #[.int .i64 P, .int .i64 K, v] 25)) v xs) := IntsAt.below hv B1.out (Nat.le_refl _)
  obtain ⟨a, n, cap, rfl⟩ := fld_slice hv
  clear hv
  by_cases hk : has1 P K xs x0 = true
  · obtain ⟨p, k, x, rfl, rfl, rfl, h, hx⟩ := has1_int hk
    rw [hk] at HS
    by_cases h0 : x = 0
    · have E : Hid (aInv p k x xs = -1) := by unfold Hid aInv; rw [if_neg (by omega)]
      have g0 : ((x : Int) == 0) = true := by rw [h0]; rfl
      clear hk h hx h0
      go_enter Try.func45, Try.ntmps45
      go_wp2_with (go_at_call 65; refine HS.out.mono ?_; rintro e w' ⟨rfl, b2⟩; have B2 := Lib.hid b2; have F2 := Lib.hid (Fd.next F1.out b2); have V2 := Lib.hid (IntsAt.below V1.out b2 (Nat.le_refl _)); clear b2)
      go_ret
      exact ⟨ret_i _ _ E.out.symm, B1.out.trans (B2.out.mono B1.out.size)⟩
    · have h1 : 1 ≤ x := by omega
      have HZ := Lib.hid (fun (W : World) (hf : Fd W w.heap.size p k (.slice a n cap)) (hi : IntsAt W (.slice a n cap) xs) => sinverse p k x xs _ w.heap.size W hf hi h h1 hx)
      have E : Hid (aInv p k x xs = (invF p k (cofs xs) x : Nat)) := by
        unfold Hid aInv
        rw [if_pos ⟨hk, by omega⟩]
        simp only [Int.toNat_natCast]
      have g0 : ((x : Int) == 0) = false := by simp; omega
      clear hk h hx h0 h1
      go_enter Try.func45, Try.ntmps45
      go_wp2_with (first | (go_at_call 65; refine HS.out.mono ?_; rintro e w' ⟨rfl, b2⟩; have B2 := Lib.hid b2; have F2 := Lib.hid (Fd.next F1.out b2); have V2 := Lib.hid (IntsAt.below V1.out b2 (Nat.le_refl _)); clear b2) | (go_at_call 78; refine (HZ.out _ F2.out V2.out).mono ?_; rintro e w3 ⟨rfl, b3⟩; have B3 := Lib.hid b3))
      go_ret
      exact ⟨ret_i _ _ E.out.symm, (B1.out.trans (B2.out.mono B1.out.size)).trans (B3.out.mono (by have := B1.out.size; have := B2.out.size; omega))⟩
  · have E : Hid (aInv P K x0 xs = -1) := by unfold Hid aInv; rw [if_neg (fun h => hk h.1)]
    rw [Bool.not_eq_true] at hk
    rw [hk] at HS
    clear hk
    go_enter Try.func45, Try.ntmps45
    go_wp2_with (go_at_call 65; refine HS.out.mono ?_; rintro e w' ⟨rfl, b2⟩; have B2 := Lib.hid b2; clear b2)
    go_ret
    exact ⟨ret_i _ _ E.out.symm, B1.out.trans (B2.out.mono B1.out.size)⟩

set_option maxHeartbeats 1000000 in
theorem iFieldInverse (P K x0 : Int) (xs : List Int) (v : Value) (w : World) (hv : IntsAt w v xs) :
    Calls Try.prog 46 #[.agg #[.int .i64 P, .int .i64 K, v], .int .i64 x0] w fun e w' => e = .returned (.int .i64 (aInv P K x0 xs)) ∧ Below w.heap.size w w' := by
  have B1 : Hid (Below w.heap.size w (w.alloc (.cells #[.int .i64 P, .int .i64 K, v] 25))) := (Below.refl _ _).alloc (Nat.le_refl _) _
  obtain ⟨c, hc, hs, h1, hcv⟩ := ffAns_shape P K xs
  have HS := Lib.hid (ffOf P K xs v (w.alloc (.cells #[.int .i64 P, .int .i64 K, v] 25)) (hv.below B1.out (Nat.le_refl _)))
  rw [hc] at HS
  have hst := fun W : World => Try.storesFf W c hs h1
  obtain ⟨a, n, cap, rfl⟩ := fld_slice hv
  clear hv hc h1
  by_cases hk : fok P K xs = true
  · rw [hk] at HS
    have HC := Lib.hid (hcv hk)
    obtain ⟨p, k, rfl, rfl, h⟩ := fok_int hk
    rw [fsz_ok h] at HC
    have HH := Lib.hid (fun (W : World) (a : Int) => ihas p k (p ^ k : Nat) (cofs xs) a W)
    have FN : Hid (∀ W : World, Ff (W.alloc (.cells c 57)) W.heap.size p k (p ^ k : Nat) (cofs xs)) := fun W => by rw [HC.out]; exact Ff.new _ _ _ _ _
    have EV : has1 p k xs x0 = decide (0 ≤ x0 ∧ x0 < ((p ^ k : Nat) : Int)) := by unfold has1; rw [hk, Bool.true_and, fsz_ok h]
    obtain ⟨s, hs'⟩ : ∃ s : Int, ((p ^ k : Nat) : Int) = s := ⟨_, rfl⟩
    rw [hs'] at HC HH FN EV
    have HA := Lib.hid (fun W : World => HH.out W x0)
    by_cases g0 : 0 ≤ x0 ∧ x0 < s
    · rw [decide_eq_true g0] at HA EV
      simp only [ffv_lit] at HA
      obtain ⟨x, rfl⟩ : ∃ x : Nat, x0 = x := ⟨x0.toNat, by omega⟩
      have hx : x < p ^ k := by omega
      by_cases h0 : x = 0
      · have E : Hid (aInv p k x xs = -1) := by unfold Hid aInv; rw [if_neg (by omega)]
        have g5 : ((x : Int) == 0) = true := by rw [h0]; rfl
        clear EV hk h hx h0 g0 hcv HH hs'
        go_enter Try.func46, Try.ntmps46
        go_upto_region 2 with (go_at_call 59; refine HS.out.mono ?_; rintro e w2 ⟨rfl, b2⟩; have B2 := Lib.hid (B1.out.trans (b2.mono B1.out.size)); clear b2)
        have F3 := Lib.hid (FN.out w2)
        have B3 : Hid (Below w.heap.size w (w2.alloc (.cells c 57))) := B2.out.alloc B2.out.size _
        obtain ⟨g3, hg3⟩ : ∃ g3, w2.heap.size = g3 := ⟨_, rfl⟩
        obtain ⟨w3, hw3⟩ : ∃ w3, w2.alloc (.cells c 57) = w3 := ⟨_, rfl⟩
        rw [hw3] at F3 B3 ⊢
        rw [hg3] at F3 ⊢
        clear hw3 hg3 hst
        obtain ⟨p0, p1, p2, p3, p4, p5, p6, p7, p8, p9, p10, p11, p12, p13, p14⟩ := F3.out.all
        go_wp2_with (go_at_call 62; (with_reducible refine (HA.out _).mono ?_; rintro e w4 ⟨rfl, b4⟩; have F4 := Lib.hid (F3.out.next b4); have B4 := Lib.hid (B3.out.trans (b4.mono B3.out.size)); obtain ⟨q0, q1, q2, q3, q4, q5, q6, q7, q8, q9, q10, q11, q12, q13, q14⟩ := F4.out.all; clear b4))
        go_ret
        exact ⟨ret_i _ _ E.out.symm, B4.out⟩
      · have h1 : 1 ≤ x := by omega
        have w9 : s - 2 = ((p ^ k - 2 : Nat) : Int) := by
          have := q_big (Fp.of h)
          have := h.2.2.1
          omega
        have w8 : (2 : Int) ≤ s ∧ s ≤ 64 := by
          have := q_big (Fp.of h)
          have := h.2.2.1
          omega
        have HF := Lib.hid (fun W : World => ipower p k x (p ^ k - 2) xs W h hx (by have := h.2.2.1; omega))
        rw [hs'] at HF
        rw [← w9] at HF
        clear w9
        simp only [ffv_lit] at HF
        have E : Hid (aInv p k x xs = (invF p k (cofs xs) x : Nat)) := by
          unfold Hid aInv
          rw [if_pos ⟨EV, by omega⟩]
          simp only [Int.toNat_natCast]
        have g5 : ((x : Int) == 0) = false := by simp; omega
        clear EV hk h hx h0 g0 h1 hcv HH hs'
        go_enter Try.func46, Try.ntmps46
        go_upto_region 2 with (go_at_call 59; refine HS.out.mono ?_; rintro e w2 ⟨rfl, b2⟩; have B2 := Lib.hid (B1.out.trans (b2.mono B1.out.size)); clear b2)
        have F3 := Lib.hid (FN.out w2)
        have B3 : Hid (Below w.heap.size w (w2.alloc (.cells c 57))) := B2.out.alloc B2.out.size _
        obtain ⟨g3, hg3⟩ : ∃ g3, w2.heap.size = g3 := ⟨_, rfl⟩
        obtain ⟨w3, hw3⟩ : ∃ w3, w2.alloc (.cells c 57) = w3 := ⟨_, rfl⟩
        rw [hw3] at F3 B3 ⊢
        rw [hg3] at F3 ⊢
        clear hw3 hg3 hst
        obtain ⟨p0, p1, p2, p3, p4, p5, p6, p7, p8, p9, p10, p11, p12, p13, p14⟩ := F3.out.all
        go_upto_region 4 with (go_at_call 62; (with_reducible refine (HA.out _).mono ?_; rintro e w4 ⟨rfl, b4⟩; have F4 := Lib.hid (F3.out.next b4); have B4 := Lib.hid (B3.out.trans (b4.mono B3.out.size)); obtain ⟨q0, q1, q2, q3, q4, q5, q6, q7, q8, q9, q10, q11, q12, q13, q14⟩ := F4.out.all; clear b4))
        go_wp2_with (go_at_call 64; refine (HF.out _).mono ?_; rintro e w6 ⟨rfl, b6⟩; have B6 := Lib.hid (B4.out.trans (b6.mono B4.out.size)))
        go_ret
        exact ⟨ret_i _ _ E.out.symm, B6.out⟩
    · rw [decide_eq_false g0] at HA EV
      simp only [ffv_lit] at HA
      have E : Hid (aInv p k x0 xs = -1) := by unfold Hid aInv; rw [if_neg (fun h => by rw [EV] at h; cases h.1)]
      clear EV hk h g0 hcv HH hs'
      go_enter Try.func46, Try.ntmps46
      go_upto_region 2 with (go_at_call 59; refine HS.out.mono ?_; rintro e w2 ⟨rfl, b2⟩; have B2 := Lib.hid (B1.out.trans (b2.mono B1.out.size)); clear b2)
      have F3 := Lib.hid (FN.out w2)
      have B3 : Hid (Below w.heap.size w (w2.alloc (.cells c 57))) := B2.out.alloc B2.out.size _
      obtain ⟨g3, hg3⟩ : ∃ g3, w2.heap.size = g3 := ⟨_, rfl⟩
      obtain ⟨w3, hw3⟩ : ∃ w3, w2.alloc (.cells c 57) = w3 := ⟨_, rfl⟩
      rw [hw3] at F3 B3 ⊢
      rw [hg3] at F3 ⊢
      clear hw3 hg3 hst
      obtain ⟨p0, p1, p2, p3, p4, p5, p6, p7, p8, p9, p10, p11, p12, p13, p14⟩ := F3.out.all
      go_wp2_with (go_at_call 62; (with_reducible refine (HA.out _).mono ?_; rintro e w4 ⟨rfl, b4⟩; have F4 := Lib.hid (F3.out.next b4); have B4 := Lib.hid (B3.out.trans (b4.mono B3.out.size)); obtain ⟨q0, q1, q2, q3, q4, q5, q6, q7, q8, q9, q10, q11, q12, q13, q14⟩ := F4.out.all; clear b4))
      go_ret
      exact ⟨ret_i _ _ E.out.symm, B4.out⟩
  · rw [Bool.not_eq_true] at hk
    rw [hk] at HS
    have E : Hid (aInv P K x0 xs = -1) := by unfold Hid aInv has1; rw [hk, Bool.false_and, if_neg (fun h => by cases h.1)]
    clear hk hcv
    go_enter Try.func46, Try.ntmps46
    go_upto_region 2 with (go_at_call 59; refine HS.out.mono ?_; rintro e w2 ⟨rfl, b2⟩; have B2 := Lib.hid (B1.out.trans (b2.mono B1.out.size)); clear b2)
    have B3 : Hid (Below w.heap.size w (w2.alloc (.cells c 57))) := B2.out.alloc B2.out.size _
    go_wp2
    go_ret
    exact ⟨ret_i _ _ E.out.symm, B3.out⟩

noncomputable def aPow (P K x0 x1 : Int) (xs : List Int) : Int := if has1 P K xs x0 = true ∧ 0 ≤ x1 then (pw P.toNat K.toNat (cofs xs) x0.toNat x1.toNat : Nat) else -1
set_option maxHeartbeats 1000000 in
theorem sFieldPower (P K x0 x1 : Int) (xs : List Int) (v : Value) (w : World) (hv : IntsAt w v xs) (hx1 : x1 ≤ 9223372036854775807) :
    Calls Try.prog 47 #[.agg #[.int .i64 P, .int .i64 K, v], .int .i64 x0, .int .i64 x1] w fun e w' => e = .returned (.int .i64 (aPow P K x0 x1 xs)) ∧ Below w.heap.size w w' := by
  have B1 : Hid (Below w.heap.size w (w.alloc (.cells #[.int .i64 P, .int .i64 K, v] 25))) := (Below.refl _ _).alloc (Nat.le_refl _) _
  have HS := Lib.hid (shas P K xs v w.heap.size (w.alloc (.cells #[.int .i64 P, .int .i64 K, v] 25)) x0 0 (Fd.new w P K v) (hv.below B1.out (Nat.le_refl _)))
  rw [has_has1] at HS
  have F1 := Lib.hid (Fd.new w P K v)
  have V1 : Hid (IntsAt (w.alloc (.cells #[.int .i64 P, .int .i64 K, v] 25)) v xs) := IntsAt.below hv B1.out (Nat.le_refl _)
  obtain ⟨a, n, cap, rfl⟩ := fld_slice hv
  clear hv
  by_cases hk : has1 P K xs x0 = true
  · obtain ⟨p, k, x, rfl, rfl, rfl, h, hx⟩ := has1_int hk
    rw [hk] at HS
    by_cases h0 : x1 < 0
    · have E : Hid (aPow p k x x1 xs = -1) := by unfold Hid aPow; rw [if_neg (by omega)]
      have g0 : decide (x1 < 0) = true := by simpa using h0
      clear hk h hx hx1
      go_enter Try.func47, Try.ntmps47
      go_wp2_with (go_at_call 65; refine HS.out.mono ?_; rintro e w' ⟨rfl, b2⟩; have B2 := Lib.hid b2; have F2 := Lib.hid (Fd.next F1.out b2); have V2 := Lib.hid (IntsAt.below V1.out b2 (Nat.le_refl _)); clear b2)
      go_ret
      exact ⟨ret_i _ _ E.out.symm, B1.out.trans (B2.out.mono B1.out.size)⟩
    · obtain ⟨n', rfl⟩ : ∃ n' : Nat, x1 = n' := ⟨x1.toNat, by omega⟩
      have hn' : n' ≤ 9223372036854775807 := by omega
      have HZ := Lib.hid (fun (W : World) (hf : Fd W w.heap.size p k (.slice a n cap)) (hi : IntsAt W (.slice a n cap) xs) => sraise p k x n' xs _ w.heap.size W hf hi h hx hn')
      have E : Hid (aPow p k x n' xs = (pw p k (cofs xs) x n' : Nat)) := by
        unfold Hid aPow
        rw [if_pos ⟨hk, by omega⟩]
        simp only [Int.toNat_natCast]
      have g0 : decide ((n' : Int) < 0) = false := by simp
      clear hk h hx h0 hn' hx1
      go_enter Try.func47, Try.ntmps47
      go_wp2_with (first | (go_at_call 65; refine HS.out.mono ?_; rintro e w' ⟨rfl, b2⟩; have B2 := Lib.hid b2; have F2 := Lib.hid (Fd.next F1.out b2); have V2 := Lib.hid (IntsAt.below V1.out b2 (Nat.le_refl _)); clear b2) | (go_at_call 79; refine (HZ.out _ F2.out V2.out).mono ?_; rintro e w3 ⟨rfl, b3⟩; have B3 := Lib.hid b3))
      go_ret
      exact ⟨ret_i _ _ E.out.symm, (B1.out.trans (B2.out.mono B1.out.size)).trans (B3.out.mono (by have := B1.out.size; have := B2.out.size; omega))⟩
  · have E : Hid (aPow P K x0 x1 xs = -1) := by unfold Hid aPow; rw [if_neg (fun h => hk h.1)]
    rw [Bool.not_eq_true] at hk
    rw [hk] at HS
    clear hk hx1
    go_enter Try.func47, Try.ntmps47
    go_wp2_with (go_at_call 65; refine HS.out.mono ?_; rintro e w' ⟨rfl, b2⟩; have B2 := Lib.hid b2; clear b2)
    go_ret
    exact ⟨ret_i _ _ E.out.symm, B1.out.trans (B2.out.mono B1.out.size)⟩

set_option maxHeartbeats 1000000 in
theorem iFieldPower (P K x0 x1 : Int) (xs : List Int) (v : Value) (w : World) (hv : IntsAt w v xs) (hx1 : x1 ≤ 9223372036854775807) :
    Calls Try.prog 23 #[.agg #[.int .i64 P, .int .i64 K, v], .int .i64 x0, .int .i64 x1] w fun e w' => e = .returned (.int .i64 (aPow P K x0 x1 xs)) ∧ Below w.heap.size w w' := by
  have B1 : Hid (Below w.heap.size w (w.alloc (.cells #[.int .i64 P, .int .i64 K, v] 25))) := (Below.refl _ _).alloc (Nat.le_refl _) _
  obtain ⟨c, hc, hs, h1, hcv⟩ := ffAns_shape P K xs
  have HS := Lib.hid (ffOf P K xs v (w.alloc (.cells #[.int .i64 P, .int .i64 K, v] 25)) (hv.below B1.out (Nat.le_refl _)))
  rw [hc] at HS
  have hst := fun W : World => Try.storesFf W c hs h1
  obtain ⟨a, n, cap, rfl⟩ := fld_slice hv
  clear hv hc h1
  by_cases hk : fok P K xs = true
  · rw [hk] at HS
    have HC := Lib.hid (hcv hk)
    obtain ⟨p, k, rfl, rfl, h⟩ := fok_int hk
    rw [fsz_ok h] at HC
    have HH := Lib.hid (fun (W : World) (a : Int) => ihas p k (p ^ k : Nat) (cofs xs) a W)
    have FN : Hid (∀ W : World, Ff (W.alloc (.cells c 57)) W.heap.size p k (p ^ k : Nat) (cofs xs)) := fun W => by rw [HC.out]; exact Ff.new _ _ _ _ _
    have EV : has1 p k xs x0 = decide (0 ≤ x0 ∧ x0 < ((p ^ k : Nat) : Int)) := by unfold has1; rw [hk, Bool.true_and, fsz_ok h]
    obtain ⟨s, hs'⟩ : ∃ s : Int, ((p ^ k : Nat) : Int) = s := ⟨_, rfl⟩
    rw [hs'] at HC HH FN EV
    have HA := Lib.hid (fun W : World => HH.out W x0)
    by_cases g0 : 0 ≤ x0 ∧ x0 < s
    · rw [decide_eq_true g0] at HA EV
      simp only [ffv_lit] at HA
      obtain ⟨x, rfl⟩ : ∃ x : Nat, x0 = x := ⟨x0.toNat, by omega⟩
      have hx : x < p ^ k := by omega
      by_cases h0 : x1 < 0
      · have E : Hid (aPow p k x x1 xs = -1) := by unfold Hid aPow; rw [if_neg (by omega)]
        have g5 : decide (x1 < 0) = true := by simpa using h0
        clear EV hk h hx g0 hcv HH hx1 hs'
        go_enter Try.func23, Try.ntmps23
        go_upto_region 2 with (go_at_call 59; refine HS.out.mono ?_; rintro e w2 ⟨rfl, b2⟩; have B2 := Lib.hid (B1.out.trans (b2.mono B1.out.size)); clear b2)
        have F3 := Lib.hid (FN.out w2)
        have B3 : Hid (Below w.heap.size w (w2.alloc (.cells c 57))) := B2.out.alloc B2.out.size _
        obtain ⟨g3, hg3⟩ : ∃ g3, w2.heap.size = g3 := ⟨_, rfl⟩
        obtain ⟨w3, hw3⟩ : ∃ w3, w2.alloc (.cells c 57) = w3 := ⟨_, rfl⟩
        rw [hw3] at F3 B3 ⊢
        rw [hg3] at F3 ⊢
        clear hw3 hg3 hst
        obtain ⟨p0, p1, p2, p3, p4, p5, p6, p7, p8, p9, p10, p11, p12, p13, p14⟩ := F3.out.all
        go_wp2_with (go_at_call 62; (with_reducible refine (HA.out _).mono ?_; rintro e w4 ⟨rfl, b4⟩; have F4 := Lib.hid (F3.out.next b4); have B4 := Lib.hid (B3.out.trans (b4.mono B3.out.size)); obtain ⟨q0, q1, q2, q3, q4, q5, q6, q7, q8, q9, q10, q11, q12, q13, q14⟩ := F4.out.all; clear b4))
        go_ret
        exact ⟨ret_i _ _ E.out.symm, B4.out⟩
      · obtain ⟨n', rfl⟩ : ∃ n' : Nat, x1 = n' := ⟨x1.toNat, by omega⟩
        have hn' : n' ≤ 9223372036854775807 := by omega
        have HF := Lib.hid (fun W : World => ipower p k x n' xs W h hx hn')
        rw [hs'] at HF
        simp only [ffv_lit] at HF
        have E : Hid (aPow p k x n' xs = (pw p k (cofs xs) x n' : Nat)) := by
          unfold Hid aPow
          rw [if_pos ⟨EV, by omega⟩]
          simp only [Int.toNat_natCast]
        have g5 : decide ((n' : Int) < 0) = false := by simp
        clear EV hk h hx h0 g0 hcv HH hn' hx1 hs'
        go_enter Try.func23, Try.ntmps23
        go_upto_region 2 with (go_at_call 59; refine HS.out.mono ?_; rintro e w2 ⟨rfl, b2⟩; have B2 := Lib.hid (B1.out.trans (b2.mono B1.out.size)); clear b2)
        have F3 := Lib.hid (FN.out w2)
        have B3 : Hid (Below w.heap.size w (w2.alloc (.cells c 57))) := B2.out.alloc B2.out.size _
        obtain ⟨g3, hg3⟩ : ∃ g3, w2.heap.size = g3 := ⟨_, rfl⟩
        obtain ⟨w3, hw3⟩ : ∃ w3, w2.alloc (.cells c 57) = w3 := ⟨_, rfl⟩
        rw [hw3] at F3 B3 ⊢
        rw [hg3] at F3 ⊢
        clear hw3 hg3 hst
        obtain ⟨p0, p1, p2, p3, p4, p5, p6, p7, p8, p9, p10, p11, p12, p13, p14⟩ := F3.out.all
        go_upto_region 4 with (go_at_call 62; (with_reducible refine (HA.out _).mono ?_; rintro e w4 ⟨rfl, b4⟩; have F4 := Lib.hid (F3.out.next b4); have B4 := Lib.hid (B3.out.trans (b4.mono B3.out.size)); obtain ⟨q0, q1, q2, q3, q4, q5, q6, q7, q8, q9, q10, q11, q12, q13, q14⟩ := F4.out.all; clear b4))
        go_wp2_with (go_at_call 64; refine (HF.out _).mono ?_; rintro e w6 ⟨rfl, b6⟩; have B6 := Lib.hid (B4.out.trans (b6.mono B4.out.size)))
        go_ret
        exact ⟨ret_i _ _ E.out.symm, B6.out⟩
    · rw [decide_eq_false g0] at HA EV
      simp only [ffv_lit] at HA
      have E : Hid (aPow p k x0 x1 xs = -1) := by unfold Hid aPow; rw [if_neg (fun h => by rw [EV] at h; cases h.1)]
      clear EV hk h g0 hcv HH hx1 hs'
      go_enter Try.func23, Try.ntmps23
      go_upto_region 2 with (go_at_call 59; refine HS.out.mono ?_; rintro e w2 ⟨rfl, b2⟩; have B2 := Lib.hid (B1.out.trans (b2.mono B1.out.size)); clear b2)
      have F3 := Lib.hid (FN.out w2)
      have B3 : Hid (Below w.heap.size w (w2.alloc (.cells c 57))) := B2.out.alloc B2.out.size _
      obtain ⟨g3, hg3⟩ : ∃ g3, w2.heap.size = g3 := ⟨_, rfl⟩
      obtain ⟨w3, hw3⟩ : ∃ w3, w2.alloc (.cells c 57) = w3 := ⟨_, rfl⟩
      rw [hw3] at F3 B3 ⊢
      rw [hg3] at F3 ⊢
      clear hw3 hg3 hst
      obtain ⟨p0, p1, p2, p3, p4, p5, p6, p7, p8, p9, p10, p11, p12, p13, p14⟩ := F3.out.all
      go_wp2_with (go_at_call 62; (with_reducible refine (HA.out _).mono ?_; rintro e w4 ⟨rfl, b4⟩; have F4 := Lib.hid (F3.out.next b4); have B4 := Lib.hid (B3.out.trans (b4.mono B3.out.size)); obtain ⟨q0, q1, q2, q3, q4, q5, q6, q7, q8, q9, q10, q11, q12, q13, q14⟩ := F4.out.all; clear b4))
      go_ret
      exact ⟨ret_i _ _ E.out.symm, B4.out⟩
  · rw [Bool.not_eq_true] at hk
    rw [hk] at HS
    have E : Hid (aPow P K x0 x1 xs = -1) := by unfold Hid aPow has1; rw [hk, Bool.false_and, if_neg (fun h => by cases h.1)]
    clear hk hcv hx1
    go_enter Try.func23, Try.ntmps23
    go_upto_region 2 with (go_at_call 59; refine HS.out.mono ?_; rintro e w2 ⟨rfl, b2⟩; have B2 := Lib.hid (B1.out.trans (b2.mono B1.out.size)); clear b2)
    have B3 : Hid (Below w.heap.size w (w2.alloc (.cells c 57))) := B2.out.alloc B2.out.size _
    go_wp2
    go_ret
    exact ⟨ret_i _ _ E.out.symm, B3.out⟩

noncomputable def aOrd (P K x0 : Int) (xs : List Int) : Int := if has1 P K xs x0 = true ∧ x0 ≠ 0 then (ordF P.toNat K.toNat (cofs xs) x0.toNat : Nat) else -1
set_option maxHeartbeats 1000000 in
theorem sFieldOrder (P K x0 : Int) (xs : List Int) (v : Value) (w : World) (hv : IntsAt w v xs) :
    Calls Try.prog 48 #[.agg #[.int .i64 P, .int .i64 K, v], .int .i64 x0] w fun e w' => e = .returned (.int .i64 (aOrd P K x0 xs)) ∧ Below w.heap.size w w' := by
  have B1 : Hid (Below w.heap.size w (w.alloc (.cells #[.int .i64 P, .int .i64 K, v] 25))) := (Below.refl _ _).alloc (Nat.le_refl _) _
  have HS := Lib.hid (shas P K xs v w.heap.size (w.alloc (.cells #[.int .i64 P, .int .i64 K, v] 25)) x0 0 (Fd.new w P K v) (hv.below B1.out (Nat.le_refl _)))
  rw [has_has1] at HS
  have F1 := Lib.hid (Fd.new w P K v)
  have V1 : Hid (IntsAt (w.alloc (.cells #[.int .i64 P, .int .i64 K, v] 25)) v xs) := IntsAt.below hv B1.out (Nat.le_refl _)
  obtain ⟨a, n, cap, rfl⟩ := fld_slice hv
  clear hv
  by_cases hk : has1 P K xs x0 = true
  · obtain ⟨p, k, x, rfl, rfl, rfl, h, hx⟩ := has1_int hk
    rw [hk] at HS
    by_cases h0 : x = 0
    · have E : Hid (aOrd p k x xs = -1) := by unfold Hid aOrd; rw [if_neg (by omega)]
      have g0 : ((x : Int) == 0) = true := by rw [h0]; rfl
      clear hk h hx h0
      go_enter Try.func48, Try.ntmps48
      go_wp2_with (go_at_call 65; refine HS.out.mono ?_; rintro e w' ⟨rfl, b2⟩; have B2 := Lib.hid b2; have F2 := Lib.hid (Fd.next F1.out b2); have V2 := Lib.hid (IntsAt.below V1.out b2 (Nat.le_refl _)); clear b2)
      go_ret
      exact ⟨ret_i _ _ E.out.symm, B1.out.trans (B2.out.mono B1.out.size)⟩
    · have h1 : 1 ≤ x := by omega
      have HZ := Lib.hid (fun (W : World) (hf : Fd W w.heap.size p k (.slice a n cap)) (hi : IntsAt W (.slice a n cap) xs) => sorder p k x xs _ w.heap.size W hf hi h h1 hx)
      have E : Hid (aOrd p k x xs = (ordF p k (cofs xs) x : Nat)) := by
        unfold Hid aOrd
        rw [if_pos ⟨hk, by omega⟩]
        simp only [Int.toNat_natCast]
      have g0 : ((x : Int) == 0) = false := by simp; omega
      clear hk h hx h0 h1
      go_enter Try.func48, Try.ntmps48
      go_wp2_with (first | (go_at_call 65; refine HS.out.mono ?_; rintro e w' ⟨rfl, b2⟩; have B2 := Lib.hid b2; have F2 := Lib.hid (Fd.next F1.out b2); have V2 := Lib.hid (IntsAt.below V1.out b2 (Nat.le_refl _)); clear b2) | (go_at_call 80; refine (HZ.out _ F2.out V2.out).mono ?_; rintro e w3 ⟨rfl, b3⟩; have B3 := Lib.hid b3))
      go_ret
      exact ⟨ret_i _ _ E.out.symm, (B1.out.trans (B2.out.mono B1.out.size)).trans (B3.out.mono (by have := B1.out.size; have := B2.out.size; omega))⟩
  · have E : Hid (aOrd P K x0 xs = -1) := by unfold Hid aOrd; rw [if_neg (fun h => hk h.1)]
    rw [Bool.not_eq_true] at hk
    rw [hk] at HS
    clear hk
    go_enter Try.func48, Try.ntmps48
    go_wp2_with (go_at_call 65; refine HS.out.mono ?_; rintro e w' ⟨rfl, b2⟩; have B2 := Lib.hid b2; clear b2)
    go_ret
    exact ⟨ret_i _ _ E.out.symm, B1.out.trans (B2.out.mono B1.out.size)⟩

set_option maxHeartbeats 1000000 in
theorem iFieldOrder (P K x0 : Int) (xs : List Int) (v : Value) (w : World) (hv : IntsAt w v xs) :
    Calls Try.prog 22 #[.agg #[.int .i64 P, .int .i64 K, v], .int .i64 x0] w fun e w' => e = .returned (.int .i64 (aOrd P K x0 xs)) ∧ Below w.heap.size w w' := by
  have B1 : Hid (Below w.heap.size w (w.alloc (.cells #[.int .i64 P, .int .i64 K, v] 25))) := (Below.refl _ _).alloc (Nat.le_refl _) _
  obtain ⟨c, hc, hs, h1, hcv⟩ := ffAns_shape P K xs
  have HS := Lib.hid (ffOf P K xs v (w.alloc (.cells #[.int .i64 P, .int .i64 K, v] 25)) (hv.below B1.out (Nat.le_refl _)))
  rw [hc] at HS
  have hst := fun W : World => Try.storesFf W c hs h1
  obtain ⟨a, n, cap, rfl⟩ := fld_slice hv
  clear hv hc h1
  by_cases hk : fok P K xs = true
  · rw [hk] at HS
    have HC := Lib.hid (hcv hk)
    obtain ⟨p, k, rfl, rfl, h⟩ := fok_int hk
    rw [fsz_ok h] at HC
    have HH := Lib.hid (fun (W : World) (a : Int) => ihas p k (p ^ k : Nat) (cofs xs) a W)
    have FN : Hid (∀ W : World, Ff (W.alloc (.cells c 57)) W.heap.size p k (p ^ k : Nat) (cofs xs)) := fun W => by rw [HC.out]; exact Ff.new _ _ _ _ _
    have EV : has1 p k xs x0 = decide (0 ≤ x0 ∧ x0 < ((p ^ k : Nat) : Int)) := by unfold has1; rw [hk, Bool.true_and, fsz_ok h]
    obtain ⟨s, hs'⟩ : ∃ s : Int, ((p ^ k : Nat) : Int) = s := ⟨_, rfl⟩
    rw [hs'] at HC HH FN EV
    have HA := Lib.hid (fun W : World => HH.out W x0)
    by_cases g0 : 0 ≤ x0 ∧ x0 < s
    · rw [decide_eq_true g0] at HA EV
      simp only [ffv_lit] at HA
      obtain ⟨x, rfl⟩ : ∃ x : Nat, x0 = x := ⟨x0.toNat, by omega⟩
      have hx : x < p ^ k := by omega
      by_cases h0 : x = 0
      · have E : Hid (aOrd p k x xs = -1) := by unfold Hid aOrd; rw [if_neg (by omega)]
        have g5 : ((x : Int) == 0) = true := by rw [h0]; rfl
        clear EV hk h hx h0 g0 hcv HH hs'
        go_enter Try.func22, Try.ntmps22
        go_upto_region 2 with (go_at_call 59; refine HS.out.mono ?_; rintro e w2 ⟨rfl, b2⟩; have B2 := Lib.hid (B1.out.trans (b2.mono B1.out.size)); clear b2)
        have F3 := Lib.hid (FN.out w2)
        have B3 : Hid (Below w.heap.size w (w2.alloc (.cells c 57))) := B2.out.alloc B2.out.size _
        obtain ⟨g3, hg3⟩ : ∃ g3, w2.heap.size = g3 := ⟨_, rfl⟩
        obtain ⟨w3, hw3⟩ : ∃ w3, w2.alloc (.cells c 57) = w3 := ⟨_, rfl⟩
        rw [hw3] at F3 B3 ⊢
        rw [hg3] at F3 ⊢
        clear hw3 hg3 hst
        obtain ⟨p0, p1, p2, p3, p4, p5, p6, p7, p8, p9, p10, p11, p12, p13, p14⟩ := F3.out.all
        go_wp2_with (go_at_call 62; (with_reducible refine (HA.out _).mono ?_; rintro e w4 ⟨rfl, b4⟩; have F4 := Lib.hid (F3.out.next b4); have B4 := Lib.hid (B3.out.trans (b4.mono B3.out.size)); obtain ⟨q0, q1, q2, q3, q4, q5, q6, q7, q8, q9, q10, q11, q12, q13, q14⟩ := F4.out.all; clear b4))
        go_ret
        exact ⟨ret_i _ _ E.out.symm, B4.out⟩
      · have h1 : 1 ≤ x := by omega
        have HF := Lib.hid (fun W : World => iorder p k x xs W h h1 hx)
        rw [hs'] at HF
        simp only [ffv_lit] at HF
        have E : Hid (aOrd p k x xs = (ordF p k (cofs xs) x : Nat)) := by
          unfold Hid aOrd
          rw [if_pos ⟨EV, by omega⟩]
          simp only [Int.toNat_natCast]
        have g5 : ((x : Int) == 0) = false := by simp; omega
        clear EV hk h hx h0 g0 h1 hcv HH hs'
        go_enter Try.func22, Try.ntmps22
        go_upto_region 2 with (go_at_call 59; refine HS.out.mono ?_; rintro e w2 ⟨rfl, b2⟩; have B2 := Lib.hid (B1.out.trans (b2.mono B1.out.size)); clear b2)
        have F3 := Lib.hid (FN.out w2)
        have B3 : Hid (Below w.heap.size w (w2.alloc (.cells c 57))) := B2.out.alloc B2.out.size _
        obtain ⟨g3, hg3⟩ : ∃ g3, w2.heap.size = g3 := ⟨_, rfl⟩
        obtain ⟨w3, hw3⟩ : ∃ w3, w2.alloc (.cells c 57) = w3 := ⟨_, rfl⟩
        rw [hw3] at F3 B3 ⊢
        rw [hg3] at F3 ⊢
        clear hw3 hg3 hst
        obtain ⟨p0, p1, p2, p3, p4, p5, p6, p7, p8, p9, p10, p11, p12, p13, p14⟩ := F3.out.all
        go_upto_region 4 with (go_at_call 62; (with_reducible refine (HA.out _).mono ?_; rintro e w4 ⟨rfl, b4⟩; have F4 := Lib.hid (F3.out.next b4); have B4 := Lib.hid (B3.out.trans (b4.mono B3.out.size)); obtain ⟨q0, q1, q2, q3, q4, q5, q6, q7, q8, q9, q10, q11, q12, q13, q14⟩ := F4.out.all; clear b4))
        go_wp2_with (go_at_call 63; refine (HF.out _).mono ?_; rintro e w6 ⟨rfl, b6⟩; have B6 := Lib.hid (B4.out.trans (b6.mono B4.out.size)))
        go_ret
        exact ⟨ret_i _ _ E.out.symm, B6.out⟩
    · rw [decide_eq_false g0] at HA EV
      simp only [ffv_lit] at HA
      have E : Hid (aOrd p k x0 xs = -1) := by unfold Hid aOrd; rw [if_neg (fun h => by rw [EV] at h; cases h.1)]
      clear EV hk h g0 hcv HH hs'
      go_enter Try.func22, Try.ntmps22
      go_upto_region 2 with (go_at_call 59; refine HS.out.mono ?_; rintro e w2 ⟨rfl, b2⟩; have B2 := Lib.hid (B1.out.trans (b2.mono B1.out.size)); clear b2)
      have F3 := Lib.hid (FN.out w2)
      have B3 : Hid (Below w.heap.size w (w2.alloc (.cells c 57))) := B2.out.alloc B2.out.size _
      obtain ⟨g3, hg3⟩ : ∃ g3, w2.heap.size = g3 := ⟨_, rfl⟩
      obtain ⟨w3, hw3⟩ : ∃ w3, w2.alloc (.cells c 57) = w3 := ⟨_, rfl⟩
      rw [hw3] at F3 B3 ⊢
      rw [hg3] at F3 ⊢
      clear hw3 hg3 hst
      obtain ⟨p0, p1, p2, p3, p4, p5, p6, p7, p8, p9, p10, p11, p12, p13, p14⟩ := F3.out.all
      go_wp2_with (go_at_call 62; (with_reducible refine (HA.out _).mono ?_; rintro e w4 ⟨rfl, b4⟩; have F4 := Lib.hid (F3.out.next b4); have B4 := Lib.hid (B3.out.trans (b4.mono B3.out.size)); obtain ⟨q0, q1, q2, q3, q4, q5, q6, q7, q8, q9, q10, q11, q12, q13, q14⟩ := F4.out.all; clear b4))
      go_ret
      exact ⟨ret_i _ _ E.out.symm, B4.out⟩
  · rw [Bool.not_eq_true] at hk
    rw [hk] at HS
    have E : Hid (aOrd P K x0 xs = -1) := by unfold Hid aOrd has1; rw [hk, Bool.false_and, if_neg (fun h => by cases h.1)]
    clear hk hcv
    go_enter Try.func22, Try.ntmps22
    go_upto_region 2 with (go_at_call 59; refine HS.out.mono ?_; rintro e w2 ⟨rfl, b2⟩; have B2 := Lib.hid (B1.out.trans (b2.mono B1.out.size)); clear b2)
    have B3 : Hid (Below w.heap.size w (w2.alloc (.cells c 57))) := B2.out.alloc B2.out.size _
    go_wp2
    go_ret
    exact ⟨ret_i _ _ E.out.symm, B3.out⟩

noncomputable def aTrc (P K x0 : Int) (xs : List Int) : Int := if has1 P K xs x0 = true then ((trF P.toNat K.toNat (cofs xs) x0.toNat K.toNat).1 : Nat) else -1
set_option maxHeartbeats 1000000 in
theorem iFieldTrace (P K x0 : Int) (xs : List Int) (v : Value) (w : World) (hv : IntsAt w v xs) :
    Calls Try.prog 25 #[.agg #[.int .i64 P, .int .i64 K, v], .int .i64 x0] w fun e w' => e = .returned (.int .i64 (aTrc P K x0 xs)) ∧ Below w.heap.size w w' := by
  have B1 : Hid (Below w.heap.size w (w.alloc (.cells #[.int .i64 P, .int .i64 K, v] 25))) := (Below.refl _ _).alloc (Nat.le_refl _) _
  obtain ⟨c, hc, hs, h1, hcv⟩ := ffAns_shape P K xs
  have HS := Lib.hid (ffOf P K xs v (w.alloc (.cells #[.int .i64 P, .int .i64 K, v] 25)) (hv.below B1.out (Nat.le_refl _)))
  rw [hc] at HS
  have hst := fun W : World => Try.storesFf W c hs h1
  obtain ⟨a, n, cap, rfl⟩ := fld_slice hv
  clear hv hc h1
  by_cases hk : fok P K xs = true
  · rw [hk] at HS
    have HC := Lib.hid (hcv hk)
    obtain ⟨p, k, rfl, rfl, h⟩ := fok_int hk
    rw [fsz_ok h] at HC
    have HH := Lib.hid (fun (W : World) (a : Int) => ihas p k (p ^ k : Nat) (cofs xs) a W)
    have FN : Hid (∀ W : World, Ff (W.alloc (.cells c 57)) W.heap.size p k (p ^ k : Nat) (cofs xs)) := fun W => by rw [HC.out]; exact Ff.new _ _ _ _ _
    have EV : has1 p k xs x0 = decide (0 ≤ x0 ∧ x0 < ((p ^ k : Nat) : Int)) := by unfold has1; rw [hk, Bool.true_and, fsz_ok h]
    obtain ⟨s, hs'⟩ : ∃ s : Int, ((p ^ k : Nat) : Int) = s := ⟨_, rfl⟩
    rw [hs'] at HC HH FN EV
    have HA := Lib.hid (fun W : World => HH.out W x0)
    by_cases g0 : 0 ≤ x0 ∧ x0 < s
    · rw [decide_eq_true g0] at HA EV
      simp only [ffv_lit] at HA
      obtain ⟨x, rfl⟩ : ∃ x : Nat, x0 = x := ⟨x0.toNat, by omega⟩
      have hx : x < p ^ k := by omega
      have HF := Lib.hid (fun W : World => itrace p k x xs W h hx)
      rw [hs'] at HF
      simp only [ffv_lit] at HF
      have E : Hid (aTrc p k x xs = ((trF p k (cofs xs) x k).1 : Nat)) := by
        unfold Hid aTrc
        rw [if_pos EV]
        simp only [Int.toNat_natCast]
      skip
      clear EV hk h hx g0 hcv HH hs'
      go_enter Try.func25, Try.ntmps25
      go_upto_region 2 with (go_at_call 59; refine HS.out.mono ?_; rintro e w2 ⟨rfl, b2⟩; have B2 := Lib.hid (B1.out.trans (b2.mono B1.out.size)); clear b2)
      have F3 := Lib.hid (FN.out w2)
      have B3 : Hid (Below w.heap.size w (w2.alloc (.cells c 57))) := B2.out.alloc B2.out.size _
      obtain ⟨g3, hg3⟩ : ∃ g3, w2.heap.size = g3 := ⟨_, rfl⟩
      obtain ⟨w3, hw3⟩ : ∃ w3, w2.alloc (.cells c 57) = w3 := ⟨_, rfl⟩
      rw [hw3] at F3 B3 ⊢
      rw [hg3] at F3 ⊢
      clear hw3 hg3 hst
      obtain ⟨p0, p1, p2, p3, p4, p5, p6, p7, p8, p9, p10, p11, p12, p13, p14⟩ := F3.out.all
      go_upto_region 4 with (go_at_call 62; (with_reducible refine (HA.out _).mono ?_; rintro e w4 ⟨rfl, b4⟩; have F4 := Lib.hid (F3.out.next b4); have B4 := Lib.hid (B3.out.trans (b4.mono B3.out.size)); obtain ⟨q0, q1, q2, q3, q4, q5, q6, q7, q8, q9, q10, q11, q12, q13, q14⟩ := F4.out.all; clear b4))
      go_wp2_with (go_at_call 67; refine (HF.out _).mono ?_; rintro e w6 ⟨rfl, b6⟩; have B6 := Lib.hid (B4.out.trans (b6.mono B4.out.size)))
      go_ret
      exact ⟨ret_i _ _ E.out.symm, B6.out⟩
    · rw [decide_eq_false g0] at HA EV
      simp only [ffv_lit] at HA
      have E : Hid (aTrc p k x0 xs = -1) := by unfold Hid aTrc; rw [if_neg (by rw [EV]; decide)]
      clear EV hk h g0 hcv HH hs'
      go_enter Try.func25, Try.ntmps25
      go_upto_region 2 with (go_at_call 59; refine HS.out.mono ?_; rintro e w2 ⟨rfl, b2⟩; have B2 := Lib.hid (B1.out.trans (b2.mono B1.out.size)); clear b2)
      have F3 := Lib.hid (FN.out w2)
      have B3 : Hid (Below w.heap.size w (w2.alloc (.cells c 57))) := B2.out.alloc B2.out.size _
      obtain ⟨g3, hg3⟩ : ∃ g3, w2.heap.size = g3 := ⟨_, rfl⟩
      obtain ⟨w3, hw3⟩ : ∃ w3, w2.alloc (.cells c 57) = w3 := ⟨_, rfl⟩
      rw [hw3] at F3 B3 ⊢
      rw [hg3] at F3 ⊢
      clear hw3 hg3 hst
      obtain ⟨p0, p1, p2, p3, p4, p5, p6, p7, p8, p9, p10, p11, p12, p13, p14⟩ := F3.out.all
      go_wp2_with (go_at_call 62; (with_reducible refine (HA.out _).mono ?_; rintro e w4 ⟨rfl, b4⟩; have F4 := Lib.hid (F3.out.next b4); have B4 := Lib.hid (B3.out.trans (b4.mono B3.out.size)); obtain ⟨q0, q1, q2, q3, q4, q5, q6, q7, q8, q9, q10, q11, q12, q13, q14⟩ := F4.out.all; clear b4))
      go_ret
      exact ⟨ret_i _ _ E.out.symm, B4.out⟩
  · rw [Bool.not_eq_true] at hk
    rw [hk] at HS
    have E : Hid (aTrc P K x0 xs = -1) := by unfold Hid aTrc has1; rw [hk, Bool.false_and, if_neg (by decide)]
    clear hk hcv
    go_enter Try.func25, Try.ntmps25
    go_upto_region 2 with (go_at_call 59; refine HS.out.mono ?_; rintro e w2 ⟨rfl, b2⟩; have B2 := Lib.hid (B1.out.trans (b2.mono B1.out.size)); clear b2)
    have B3 : Hid (Below w.heap.size w (w2.alloc (.cells c 57))) := B2.out.alloc B2.out.size _
    go_wp2
    go_ret
    exact ⟨ret_i _ _ E.out.symm, B3.out⟩

end Go.Proofs.Ytmlcdbjibngnkaa
