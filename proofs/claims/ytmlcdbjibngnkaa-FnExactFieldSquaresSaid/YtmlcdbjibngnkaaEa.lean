/- Size, sum, difference and product of elements, by the model. -/
import Derived.Test.YtmlcdbjibngnkaaEm
import Derived.Test.YtmlcdbjibngnkaaLg
namespace Go.Proofs.Ytmlcdbjibngnkaa
open Go.RowKit
set_option linter.unusedVariables false

noncomputable def aSize (P K : Int) (xs : List Int) : Int := if fok P K xs = true then fsz P K else -1
noncomputable def aAdd (P K a b : Int) (xs : List Int) : Int := if hasB P K xs a b = true then fadd P.toNat K.toNat a.toNat b.toNat else -1
noncomputable def aSub (P K a b : Int) (xs : List Int) : Int := if hasB P K xs a b = true then fsub P.toNat K.toNat a.toNat b.toNat else -1
noncomputable def aMul (P K a b : Int) (xs : List Int) : Int := if hasB P K xs a b = true then fmul P.toNat K.toNat (cofs xs) a.toNat b.toNat else -1

/-- What it is to have elements. -/
theorem has_int {P K a b : Int} {xs : List Int} (h : hasB P K xs a b = true) : ∃ p k x y : Nat, P = p ∧ K = k ∧ a = x ∧ b = y ∧ FOk p k xs ∧ x < p ^ k ∧ y < p ^ k := by
  unfold hasB at h
  simp only [Bool.and_eq_true, decide_eq_true_eq] at h
  obtain ⟨h1, ⟨h2, h3⟩, h4, h5⟩ := h
  obtain ⟨p, k, rfl, rfl, hf⟩ := fok_int h1
  rw [fsz_ok hf] at h3 h5
  refine ⟨p, k, a.toNat, b.toNat, rfl, rfl, by omega, by omega, hf, ?_, ?_⟩ <;> omega

theorem fld_slice {w : World} {v : Value} {xs : List Int} (hv : IntsAt w v xs) : ∃ a n cap, v = .slice a n cap := by
  rcases hv.2 with ⟨rfl, a, cap, rfl⟩ | ⟨g, off, cap, rfl, _⟩ <;> exact ⟨_, _, _, rfl⟩

theorem sFieldSize (P K : Int) (xs : List Int) (v : Value) (w : World) (hv : IntsAt w v xs) :
    Calls Try.prog 19 #[.agg #[.int .i64 P, .int .i64 K, v]] w fun e w' => e = .returned (.int .i64 (aSize P K xs)) ∧ Below w.heap.size w w' := by
  have B1 : Hid (Below w.heap.size w (w.alloc (.cells #[.int .i64 P, .int .i64 K, v] 25))) := (Below.refl _ _).alloc (Nat.le_refl _) _
  have HS := Lib.hid (sok P K xs v w.heap.size (w.alloc (.cells #[.int .i64 P, .int .i64 K, v] 25)) (Fd.new w P K v) (hv.below B1.out (Nat.le_refl _)))
  have F1 := Lib.hid (Fd.new w P K v)
  obtain ⟨a, n, cap, rfl⟩ := fld_slice hv
  clear hv
  by_cases hk : fok P K xs = true
  · obtain ⟨p, k, rfl, rfl, h⟩ := fok_int hk
    have hb := h.bd
    have HZ := Lib.hid (fun (W : World) (hf : Fd W w.heap.size p k (.slice a n cap)) => ssize p k _ w.heap.size W hf hb.2.1 hb.2.2)
    have E : Hid (aSize p k xs = ((p ^ k : Nat) : Int)) := by unfold Hid aSize; rw [if_pos hk, fsz_ok h]
    rw [hk] at HS
    clear hk h hb
    go_enter Try.func19, Try.ntmps19
    go_wp2_with (first | (go_at_call 58; refine HS.out.mono ?_; rintro e w' ⟨rfl, b2⟩; have B2 := Lib.hid b2; have F2 := Lib.hid (Fd.next F1.out b2); clear b2) | (go_at_call 56; refine (HZ.out _ F2.out).mono ?_; rintro e w3 ⟨rfl, m, rfl⟩))
    go_ret
    exact ⟨ret_i _ _ E.out.symm, belowN (B1.out.trans (B2.out.mono B1.out.size)) _⟩
  · have E : Hid (aSize P K xs = -1) := by unfold Hid aSize; rw [if_neg hk]
    rw [Bool.not_eq_true] at hk
    rw [hk] at HS
    clear hk
    go_enter Try.func19, Try.ntmps19
    go_wp2_with (go_at_call 58; refine HS.out.mono ?_; rintro e w' ⟨rfl, b2⟩; have B2 := Lib.hid b2; clear b2)
    go_ret
    exact ⟨ret_i _ _ E.out.symm, B1.out.trans (B2.out.mono B1.out.size)⟩

set_option maxHeartbeats 1000000 in
theorem sFieldAdd (P K x0 x1 : Int) (xs : List Int) (v : Value) (w : World) (hv : IntsAt w v xs) :
    Calls Try.prog 26 #[.agg #[.int .i64 P, .int .i64 K, v], .int .i64 x0, .int .i64 x1] w fun e w' => e = .returned (.int .i64 (aAdd P K x0 x1 xs)) ∧ Below w.heap.size w w' := by
  have B1 : Hid (Below w.heap.size w (w.alloc (.cells #[.int .i64 P, .int .i64 K, v] 25))) := (Below.refl _ _).alloc (Nat.le_refl _) _
  have HS := Lib.hid (shas P K xs v w.heap.size (w.alloc (.cells #[.int .i64 P, .int .i64 K, v] 25)) x0 x1 (Fd.new w P K v) (hv.below B1.out (Nat.le_refl _)))
  have F1 := Lib.hid (Fd.new w P K v)
  have V1 : Hid (IntsAt (w.alloc (.cells #[.int .i64 P, .int .i64 K, v] 25)) v xs) := IntsAt.below hv B1.out (Nat.le_refl _)
  obtain ⟨a, n, cap, rfl⟩ := fld_slice hv
  clear hv
  by_cases hk : hasB P K xs x0 x1 = true
  · obtain ⟨p, k, x, y, rfl, rfl, rfl, rfl, h, hx, hy⟩ := has_int hk
    have hb := h.bd
    have HZ := Lib.hid (fun (W : World) (hf : Fd W w.heap.size p k (.slice a n cap)) (hi : IntsAt W (.slice a n cap) xs) => ssum p k x y 1 _ w.heap.size W hf hb.1 hb.2.1 h.2.1 hb.2.2 h.2.2.1 hx hy (by omega) (by omega))
    have E : Hid (aAdd p k x y xs = num p (fun i => (dg p x i + dg p y i) % p) k 0) := by
      unfold Hid aAdd
      rw [if_pos hk]
      unfold fadd; simp only [Int.toNat_natCast]
    rw [hk] at HS
    clear hk h hb hx hy
    go_enter Try.func26, Try.ntmps26
    go_wp2_with (first | (go_at_call 65; refine HS.out.mono ?_; rintro e w' ⟨rfl, b2⟩; have B2 := Lib.hid b2; have F2 := Lib.hid (Fd.next F1.out b2); have V2 := Lib.hid (IntsAt.below V1.out b2 (Nat.le_refl _)); clear b2) | (go_at_call 68; refine (HZ.out _ F2.out V2.out).mono ?_; rintro e w3 ⟨rfl, b3⟩; have B3 := Lib.hid b3))
    go_ret
    exact ⟨ret_i _ _ E.out.symm, (B1.out.trans (B2.out.mono B1.out.size)).trans (B3.out.mono (by have := B1.out.size; have := B2.out.size; omega))⟩
  · have E : Hid (aAdd P K x0 x1 xs = -1) := by unfold Hid aAdd; rw [if_neg hk]
    rw [Bool.not_eq_true] at hk
    rw [hk] at HS
    clear hk
    go_enter Try.func26, Try.ntmps26
    go_wp2_with (go_at_call 65; refine HS.out.mono ?_; rintro e w' ⟨rfl, b2⟩; have B2 := Lib.hid b2; clear b2)
    go_ret
    exact ⟨ret_i _ _ E.out.symm, B1.out.trans (B2.out.mono B1.out.size)⟩

set_option maxHeartbeats 1000000 in
theorem sFieldSub (P K x0 x1 : Int) (xs : List Int) (v : Value) (w : World) (hv : IntsAt w v xs) :
    Calls Try.prog 42 #[.agg #[.int .i64 P, .int .i64 K, v], .int .i64 x0, .int .i64 x1] w fun e w' => e = .returned (.int .i64 (aSub P K x0 x1 xs)) ∧ Below w.heap.size w w' := by
  have B1 : Hid (Below w.heap.size w (w.alloc (.cells #[.int .i64 P, .int .i64 K, v] 25))) := (Below.refl _ _).alloc (Nat.le_refl _) _
  have HS := Lib.hid (shas P K xs v w.heap.size (w.alloc (.cells #[.int .i64 P, .int .i64 K, v] 25)) x0 x1 (Fd.new w P K v) (hv.below B1.out (Nat.le_refl _)))
  have F1 := Lib.hid (Fd.new w P K v)
  have V1 : Hid (IntsAt (w.alloc (.cells #[.int .i64 P, .int .i64 K, v] 25)) v xs) := IntsAt.below hv B1.out (Nat.le_refl _)
  obtain ⟨a, n, cap, rfl⟩ := fld_slice hv
  clear hv
  by_cases hk : hasB P K xs x0 x1 = true
  · obtain ⟨p, k, x, y, rfl, rfl, rfl, rfl, h, hx, hy⟩ := has_int hk
    have hb := h.bd
    have HZ := Lib.hid (fun (W : World) (hf : Fd W w.heap.size p k (.slice a n cap)) (hi : IntsAt W (.slice a n cap) xs) => ssum p k x y ((p : Int) - 1) _ w.heap.size W hf hb.1 hb.2.1 h.2.1 hb.2.2 h.2.2.1 hx hy (by omega) (by omega))
    have E : Hid (aSub p k x y xs = num p (fun i => (dg p x i + ((p : Int) - 1) * dg p y i) % p) k 0) := by
      unfold Hid aSub
      rw [if_pos hk]
      unfold fsub
      simp only [Int.toNat_natCast]
      apply num_ext
      intro i _
      rw [Int.sub_mul, Int.one_mul, show dg p x i + ((p : Int) * dg p y i - dg p y i) = dg p x i - dg p y i + (p : Int) * dg p y i by omega, Int.add_mul_emod_self_left]
    rw [hk] at HS
    have p1 : (1 : Int) ≤ (p : Int) := by omega
    have p2 : (p : Int) ≤ 64 := by omega
    clear hk h hb hx hy
    go_enter Try.func42, Try.ntmps42
    go_wp2_with (first | (go_at_call 65; refine HS.out.mono ?_; rintro e w' ⟨rfl, b2⟩; have B2 := Lib.hid b2; have F2 := Lib.hid (Fd.next F1.out b2); have V2 := Lib.hid (IntsAt.below V1.out b2 (Nat.le_refl _)); obtain ⟨cc0, cc1, cc2⟩ := F2.out.cells; clear b2) | (go_at_call 68; refine (HZ.out _ F2.out V2.out).mono ?_; rintro e w3 ⟨rfl, b3⟩; have B3 := Lib.hid b3))
    go_ret
    exact ⟨ret_i _ _ E.out.symm, (B1.out.trans (B2.out.mono B1.out.size)).trans (B3.out.mono (by have := B1.out.size; have := B2.out.size; omega))⟩
  · have E : Hid (aSub P K x0 x1 xs = -1) := by unfold Hid aSub; rw [if_neg hk]
    rw [Bool.not_eq_true] at hk
    rw [hk] at HS
    clear hk
    go_enter Try.func42, Try.ntmps42
    go_wp2_with (go_at_call 65; refine HS.out.mono ?_; rintro e w' ⟨rfl, b2⟩; have B2 := Lib.hid b2; clear b2)
    go_ret
    exact ⟨ret_i _ _ E.out.symm, B1.out.trans (B2.out.mono B1.out.size)⟩

set_option maxHeartbeats 1000000 in
theorem sFieldMul (P K x0 x1 : Int) (xs : List Int) (v : Value) (w : World) (hv : IntsAt w v xs) :
    Calls Try.prog 24 #[.agg #[.int .i64 P, .int .i64 K, v], .int .i64 x0, .int .i64 x1] w fun e w' => e = .returned (.int .i64 (aMul P K x0 x1 xs)) ∧ Below w.heap.size w w' := by
  have B1 : Hid (Below w.heap.size w (w.alloc (.cells #[.int .i64 P, .int .i64 K, v] 25))) := (Below.refl _ _).alloc (Nat.le_refl _) _
  have HS := Lib.hid (shas P K xs v w.heap.size (w.alloc (.cells #[.int .i64 P, .int .i64 K, v] 25)) x0 x1 (Fd.new w P K v) (hv.below B1.out (Nat.le_refl _)))
  have F1 := Lib.hid (Fd.new w P K v)
  have V1 : Hid (IntsAt (w.alloc (.cells #[.int .i64 P, .int .i64 K, v] 25)) v xs) := IntsAt.below hv B1.out (Nat.le_refl _)
  obtain ⟨a, n, cap, rfl⟩ := fld_slice hv
  clear hv
  by_cases hk : hasB P K xs x0 x1 = true
  · obtain ⟨p, k, x, y, rfl, rfl, rfl, rfl, h, hx, hy⟩ := has_int hk
    have hb := h.bd
    have HZ := Lib.hid (fun (W : World) (hf : Fd W w.heap.size p k (.slice a n cap)) (hi : IntsAt W (.slice a n cap) xs) => smul p k x y xs _ w.heap.size W hf hi h hx hy)
    have E : Hid (aMul p k x y xs = fmul p k (cofs xs) x y) := by
      unfold Hid aMul
      rw [if_pos hk]
      simp only [Int.toNat_natCast]
    rw [hk] at HS
    clear hk h hb hx hy
    go_enter Try.func24, Try.ntmps24
    go_wp2_with (first | (go_at_call 65; refine HS.out.mono ?_; rintro e w' ⟨rfl, b2⟩; have B2 := Lib.hid b2; have F2 := Lib.hid (Fd.next F1.out b2); have V2 := Lib.hid (IntsAt.below V1.out b2 (Nat.le_refl _)); clear b2) | (go_at_call 66; refine (HZ.out _ F2.out V2.out).mono ?_; rintro e w3 ⟨rfl, b3⟩; have B3 := Lib.hid b3))
    go_ret
    exact ⟨ret_i _ _ E.out.symm, (B1.out.trans (B2.out.mono B1.out.size)).trans (B3.out.mono (by have := B1.out.size; have := B2.out.size; omega))⟩
  · have E : Hid (aMul P K x0 x1 xs = -1) := by unfold Hid aMul; rw [if_neg hk]
    rw [Bool.not_eq_true] at hk
    rw [hk] at HS
    clear hk
    go_enter Try.func24, Try.ntmps24
    go_wp2_with (go_at_call 65; refine HS.out.mono ?_; rintro e w' ⟨rfl, b2⟩; have B2 := Lib.hid b2; clear b2)
    go_ret
    exact ⟨ret_i _ _ E.out.symm, B1.out.trans (B2.out.mono B1.out.size)⟩

end Go.Proofs.Ytmlcdbjibngnkaa
