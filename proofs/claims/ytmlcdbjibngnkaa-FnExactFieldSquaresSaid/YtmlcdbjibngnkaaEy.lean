/- FieldTrace by the model; PrimitiveElement of both sides. -/
import Derived.Test.YtmlcdbjibngnkaaEx
namespace Go.Proofs.Ytmlcdbjibngnkaa
open Go.RowKit
set_option linter.unusedVariables false

set_option maxHeartbeats 1000000 in
theorem sFieldTrace (P K x0 : Int) (xs : List Int) (v : Value) (w : World) (hv : IntsAt w v xs) :
    Calls Try.prog 52 #[.agg #[.int .i64 P, .int .i64 K, v], .int .i64 x0] w fun e w' => e = .returned (.int .i64 (aTrc P K x0 xs)) ∧ Below w.heap.size w w' := by
  have B1 : Hid (Below w.heap.size w (w.alloc (.cells #[.int .i64 P, .int .i64 K, v] 25))) := (Below.refl _ _).alloc (Nat.le_refl _) _
  have HS := Lib.hid (shas P K xs v w.heap.size (w.alloc (.cells #[.int .i64 P, .int .i64 K, v] 25)) x0 0 (Fd.new w P K v) (hv.below B1.out (Nat.le_refl _)))
  rw [has_has1] at HS
  have F1 := Lib.hid (Fd.new w P K v)
  have V1 : Hid (IntsAt (w.alloc (.cells #[.int .i64 P, .int .i64 K, v] 25)) v xs) := IntsAt.below hv B1.out (Nat.le_refl _)
  obtain ⟨a, n, cap, rfl⟩ := fld_slice hv
  by_cases hk : has1 P K xs x0 = true
  · obtain ⟨p, k, x, rfl, rfl, rfl, h, hx⟩ := has1_int hk
    rw [hk] at HS
    have hF := Lib.hid (Fp.of h)
    have hb := h.bd
    have hq := h.2.2.1
    have HA := Lib.hid (fun (u y : Nat) (W : World) (hs : Sp w w.heap.size p k (.slice a n cap) W) (hu : u < p ^ k) (hy : y < p ^ k) => ssum p k u y 1 _ w.heap.size W hs.1 hb.1 hb.2.1 h.2.1 hb.2.2 h.2.2.1 hu hy (by omega) (by omega))
    have HP := Lib.hid (fun (u : Nat) (W : World) (hs : Sp w w.heap.size p k (.slice a n cap) W) (hu : u < p ^ k) => sraise p k u p xs _ w.heap.size W hs.1 (hv.below hs.2 (Nat.le_refl _)) h hu (by omega))
    have E : Hid (aTrc p k x xs = ((trF p k (cofs xs) x k).1 : Nat)) := by
      unfold Hid aTrc
      rw [if_pos hk]
      simp only [Int.toNat_natCast]
    have q0 : 0 < p ^ k := by omega
    clear hk h hv
    go_enter Try.func52, Try.ntmps52
    go_upto_region 3 with (go_at_call 65; refine HS.out.mono ?_; rintro e w' ⟨rfl, b2⟩; have S2 : Hid (Sp w w.heap.size p k (.slice a n cap) w') := ⟨F1.out.next b2, B1.out.trans (b2.mono B1.out.size)⟩; clear b2)
    clear HS F1 V1 B1
    go_wp2
    go_loopw [5, 1, 6] (fun s o i wr => ∃ j u y : Nat, j ≤ k ∧ u < p ^ k ∧ y < p ^ k ∧ s = .int .i64 u ∧ o = .int .i64 y ∧ i = .int .i64 j ∧ Hid (trF p k (cofs xs) x j = (u, y)) ∧ Hid (Sp w w.heap.size p k (.slice a n cap) wr)) (fun _ _ i _ => k - (intOf i).toNat)
    case atStart => exact ⟨0, 0, x, by omega, q0, hx, rfl, rfl, rfl, rfl, S2⟩
    case round =>
      obtain ⟨j, u, y, hj, hu, hy, rfl, rfl, rfl, hT, hS⟩ := hrel
      obtain ⟨d0, d1, d2⟩ := hS.out.1.cells
      by_cases c1 : j < k
      · have g1 : decide ((j : Int) < (k : Int)) = true := by simp; omega
        have g1' : decide (j < k) = true := by simpa using c1
        have w1 := wrapk' (n := (j : Int) + 1) (by omega)
        obtain ⟨z, hz⟩ : ∃ z : Nat, (fadd p k u y).toNat = z := ⟨_, rfl⟩
        obtain ⟨t, ht⟩ : ∃ t : Nat, pw p k (cofs xs) y p = t := ⟨_, rfl⟩
        have hzl : z < p ^ k := by rw [← hz]; exact (fadd_bd hF.out.p2 u y hu hy).2
        have htl : t < p ^ k := by rw [← ht]; exact pw_lt hF.out _ _
        have HA1 : Hid (∀ W : World, Sp w w.heap.size p k (.slice a n cap) W → Calls Try.prog 68 #[.pointer (some ⟨w.heap.size, 0, none⟩), .int .i64 u, .int .i64 y, .int .i64 1] W fun e w' => e = .returned (.int .i64 z) ∧ Below W.heap.size W w') := fun W hs => by
          rw [← hz, (fadd_bd hF.out.p2 u y hu hy).1]
          have := HA.out u y W hs hu hy
          unfold fadd
          simpa only [Int.one_mul] using this
        have HP1 := Lib.hid (fun (W : World) (hs : Sp w w.heap.size p k (.slice a n cap) W) => HP.out y W hs hy)
        rw [ht] at HP1
        have HT : Hid (trF p k (cofs xs) x (j + 1) = (z, t)) := by
          unfold Hid
          rw [trF, hT.out]
          show ((fadd p k u y).toNat, pw p k (cofs xs) y p) = (z, t)
          rw [hz, ht]
        clear hz ht hT
        go_wp2_with fail
        refine (HA1.out _ hS.out).mono ?_
        rintro e w3 ⟨rfl, b3⟩
        have S3 := Sp.next hS b3
        clear b3
        obtain ⟨e0, e1, e2⟩ := S3.out.1.cells
        go_wp2_with fail
        refine (HP1.out _ S3.out).mono ?_
        rintro e w4 ⟨rfl, b4⟩
        have S4 := Sp.next S3 b4
        clear b4
        go_wp2
        go_roundw
        case rel => exact ⟨j + 1, z, t, by omega, hzl, htl, rfl, rfl, by go_num, HT, S4⟩
        case measure => simp [intOf]; omega
      · have g1 : decide ((j : Int) < (k : Int)) = false := by simp; omega
        have g1' : decide (j < k) = false := by simpa using c1
        have E2 : Hid ((u : Int) = aTrc p k x xs) := by
          have e := hT.out
          rw [show j = k by omega] at e
          unfold Hid
          rw [E.out, e]
        go_wp2
        go_ret
        exact ⟨ret_i _ _ E2.out, hS.out.2⟩
  · have E : Hid (aTrc P K x0 xs = -1) := by unfold Hid aTrc; rw [if_neg hk]
    rw [Bool.not_eq_true] at hk
    rw [hk] at HS
    clear hk hv
    go_enter Try.func52, Try.ntmps52
    go_wp2_with (go_at_call 65; refine HS.out.mono ?_; rintro e w' ⟨rfl, b2⟩; have B2 := Lib.hid b2; clear b2)
    go_ret
    exact ⟨ret_i _ _ E.out.symm, B1.out.trans (B2.out.mono B1.out.size)⟩

noncomputable def aPrm (P K : Int) (xs : List Int) : Int := if fok P K xs = true then (primF P.toNat K.toNat (cofs xs) : Nat) else -1
set_option maxHeartbeats 1000000 in
theorem sPrimitiveElement (P K : Int) (xs : List Int) (v : Value) (w : World) (hv : IntsAt w v xs) :
    Calls Try.prog 49 #[.agg #[.int .i64 P, .int .i64 K, v]] w fun e w' => e = .returned (.int .i64 (aPrm P K xs)) ∧ Below w.heap.size w w' := by
  have B1 : Hid (Below w.heap.size w (w.alloc (.cells #[.int .i64 P, .int .i64 K, v] 25))) := (Below.refl _ _).alloc (Nat.le_refl _) _
  have HS := Lib.hid (sok P K xs v w.heap.size (w.alloc (.cells #[.int .i64 P, .int .i64 K, v] 25)) (Fd.new w P K v) (hv.below B1.out (Nat.le_refl _)))
  have F1 := Lib.hid (Fd.new w P K v)
  have V1 : Hid (IntsAt (w.alloc (.cells #[.int .i64 P, .int .i64 K, v] 25)) v xs) := IntsAt.below hv B1.out (Nat.le_refl _)
  obtain ⟨a, n, cap, rfl⟩ := fld_slice hv
  clear hv
  by_cases hk : fok P K xs = true
  · obtain ⟨p, k, rfl, rfl, h⟩ := fok_int hk
    have HZ := Lib.hid (fun (W : World) (hf : Fd W w.heap.size p k (.slice a n cap)) (hi : IntsAt W (.slice a n cap) xs) => sprimitive p k xs _ w.heap.size W hf hi h)
    have E : Hid (aPrm p k xs = (primF p k (cofs xs) : Nat)) := by
      unfold Hid aPrm
      rw [if_pos hk]
      simp only [Int.toNat_natCast]
    rw [hk] at HS
    clear hk h
    go_enter Try.func49, Try.ntmps49
    go_wp2_with (first | (go_at_call 58; refine HS.out.mono ?_; rintro e w' ⟨rfl, b2⟩; have B2 := Lib.hid b2; have F2 := Lib.hid (Fd.next F1.out b2); have V2 := Lib.hid (IntsAt.below V1.out b2 (Nat.le_refl _)); clear b2) | (go_at_call 81; refine (HZ.out _ F2.out V2.out).mono ?_; rintro e w3 ⟨rfl, b3⟩; have B3 := Lib.hid b3))
    go_ret
    exact ⟨ret_i _ _ E.out.symm, (B1.out.trans (B2.out.mono B1.out.size)).trans (B3.out.mono (by have := B1.out.size; have := B2.out.size; omega))⟩
  · have E : Hid (aPrm P K xs = -1) := by unfold Hid aPrm; rw [if_neg hk]
    rw [Bool.not_eq_true] at hk
    rw [hk] at HS
    clear hk
    go_enter Try.func49, Try.ntmps49
    go_wp2_with (go_at_call 58; refine HS.out.mono ?_; rintro e w' ⟨rfl, b2⟩; have B2 := Lib.hid b2; clear b2)
    go_ret
    exact ⟨ret_i _ _ E.out.symm, B1.out.trans (B2.out.mono B1.out.size)⟩

set_option maxHeartbeats 1000000 in
theorem iPrimitiveElement (P K : Int) (xs : List Int) (v : Value) (w : World) (hv : IntsAt w v xs) :
    Calls Try.prog 21 #[.agg #[.int .i64 P, .int .i64 K, v]] w fun e w' => e = .returned (.int .i64 (aPrm P K xs)) ∧ Below w.heap.size w w' := by
  have B1 : Hid (Below w.heap.size w (w.alloc (.cells #[.int .i64 P, .int .i64 K, v] 25))) := (Below.refl _ _).alloc (Nat.le_refl _) _
  obtain ⟨c, hc, hs, h1, hcv⟩ := ffAns_shape P K xs
  have HS := Lib.hid (ffOf P K xs v (w.alloc (.cells #[.int .i64 P, .int .i64 K, v] 25)) (hv.below B1.out (Nat.le_refl _)))
  rw [hc] at HS
  have hst := fun W : World => Try.storesFf W c hs h1
  obtain ⟨a, n, cap, rfl⟩ := fld_slice hv
  clear hv hc h1
  by_cases hk : fok P K xs = true
  · rw [hk] at HS
    have HC := Lib.hid (hcv hk)
    obtain ⟨p, k, rfl, rfl, h⟩ := fok_int hk
    rw [fsz_ok h] at HC
    have HF := Lib.hid (fun W : World => iprimitive p k xs W h)
    have E : Hid (aPrm p k xs = (primF p k (cofs xs) : Nat)) := by
      unfold Hid aPrm
      rw [if_pos hk]
      simp only [Int.toNat_natCast]
    obtain ⟨s, hs'⟩ : ∃ s : Int, ((p ^ k : Nat) : Int) = s := ⟨_, rfl⟩
    rw [hs'] at HC HF
    have FN : Hid (∀ W : World, Ff (W.alloc (.cells c 57)) W.heap.size p k s (cofs xs)) := fun W => by rw [HC.out]; exact Ff.new _ _ _ _ _
    simp only [ffv_lit] at HF
    clear hk h hs' hcv
    go_enter Try.func21, Try.ntmps21
    go_upto_region 2 with (go_at_call 59; refine HS.out.mono ?_; rintro e w2 ⟨rfl, b2⟩; have B2 := Lib.hid (B1.out.trans (b2.mono B1.out.size)); clear b2)
    have F3 := Lib.hid (FN.out w2)
    have B3 : Hid (Below w.heap.size w (w2.alloc (.cells c 57))) := B2.out.alloc B2.out.size _
    obtain ⟨g3, hg3⟩ : ∃ g3, w2.heap.size = g3 := ⟨_, rfl⟩
    obtain ⟨w3, hw3⟩ : ∃ w3, w2.alloc (.cells c 57) = w3 := ⟨_, rfl⟩
    rw [hw3] at F3 B3 ⊢
    rw [hg3] at F3 ⊢
    clear hw3 hg3 hst
    obtain ⟨p0, p1, p2, p3, p4, p5, p6, p7, p8, p9, p10, p11, p12, p13, p14⟩ := F3.out.all
    go_wp2_with (go_at_call 60; refine (HF.out _).mono ?_; rintro e w6 ⟨rfl, b6⟩; have B6 := Lib.hid (B3.out.trans (b6.mono B3.out.size)))
    go_ret
    exact ⟨ret_i _ _ E.out.symm, B6.out⟩
  · rw [Bool.not_eq_true] at hk
    rw [hk] at HS
    have E : Hid (aPrm P K xs = -1) := by unfold Hid aPrm; rw [hk, if_neg (by decide)]
    clear hk hcv
    go_enter Try.func21, Try.ntmps21
    go_upto_region 2 with (go_at_call 59; refine HS.out.mono ?_; rintro e w2 ⟨rfl, b2⟩; have B2 := Lib.hid (B1.out.trans (b2.mono B1.out.size)); clear b2)
    have B3 : Hid (Below w.heap.size w (w2.alloc (.cells c 57))) := B2.out.alloc B2.out.size _
    go_wp2
    go_ret
    exact ⟨ret_i _ _ E.out.symm, B3.out⟩
end Go.Proofs.Ytmlcdbjibngnkaa
