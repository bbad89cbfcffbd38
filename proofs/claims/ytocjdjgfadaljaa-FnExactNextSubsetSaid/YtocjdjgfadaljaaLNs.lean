/- NextSubset: the law. -/
import Derived.Test.YtocjdjgfadaljaaNs
namespace Go.Proofs.Ytocjdjgfadaljaa
open Go.RowKit
set_option linter.unusedVariables false

/-- Slices of which one was made before the other lie apart. -/
theorem Ints.sep {wa wb : World} {Ba Bb : Nat} {u v : Value} {xs ys : List Int} (hu : Ints wa Ba u xs) (hv : Ints wb Bb v ys) (h : wa.heap.size ≤ Bb) :
    (u.ownBlock = none ∨ u.ownBlock ≠ v.ownBlock) ∧ (v.ownBlock = none ∨ v.ownBlock ≠ u.ownBlock) := by
  cases e : u.ownBlock with
  | none =>
    refine ⟨.inl rfl, ?_⟩
    cases e' : v.ownBlock with
    | none => exact .inl rfl
    | some k => right; simp
  | some k =>
    have a1 := (World.ownsRow.lt hu k e).2
    cases e' : v.ownBlock with
    | none => exact ⟨.inr (by simp), .inl rfl⟩
    | some j =>
      have a2 := (World.ownsRow.lt hv j e').1
      refine ⟨.inr ?_, .inr ?_⟩ <;> simp <;> omega
theorem Ints.cap {w : World} {B : Nat} {v : Value} {xs : List Int} (h : Ints w B v xs) : ∀ a l c, v = .slice a l c → l ≤ c := by
  intro a l c e
  obtain ⟨_, ⟨rfl, h2⟩ | ⟨g, cap, cur, rfl, h3, h4, h5, h6, h7, h8⟩⟩ := h
  · simp only [Value.slice.injEq] at e; omega
  · simp only [Value.slice.injEq] at e; omega

theorem t_step {w w1 w2 : World} (T : Below w.heap.size w w1) (b : Below w1.heap.size w1 w2) : Below w.heap.size w w2 := T.trans (b.mono T.size)

set_option maxHeartbeats 2000000 in
theorem law_FnExactNextSubset (n : Int) (a : Option Addr) (len cap : Nat) (zs : List Int) (w : World) (_ : (Lit.int .i64 n).wf = true) (h : IsRow .i64 w a len cap zs) :
    Calls Try.prog 8 #[.int .i64 n, .slice a len cap] w fun r w' => r = .returned (.bool true) ∧ Below w.heap.size w w' := by
  obtain ⟨hat, hlen⟩ := h.at
  by_cases hbig : 1048576 < len
  · clear h hat hlen
    go_enter Try.func8, Try.ntmps8
    go_wp2
    go_ret
    exact ⟨rfl, Below.refl _ _⟩
  · obtain ⟨xs, hxs⟩ : ∃ xs, zs.take len = xs := ⟨_, rfl⟩
    rw [hxs] at hat hlen
    have hl : xs.length ≤ 1048576 := by omega
    have A := Lib.hid hat
    have hyl := nxA_len n xs
    obtain ⟨ys, hys⟩ : ∃ ys, nxA n xs = ys := ⟨_, rfl⟩
    obtain ⟨b, hb⟩ : ∃ b, nxB n xs = b := ⟨_, rfl⟩
    have hS := fun W v h => sNext n xs v W h
    have hI := fun W v h c => iNext n xs v W h c
    rw [hys] at hyl
    simp only [hys, hb] at hS hI
    have HS := Lib.hid hS
    have HI := Lib.hid hI
    have tb : (b != b) = false := by simp
    clear h hat hlen hxs hS hI hb hys
    go_enter Try.func8, Try.ntmps8
    go_wp2_with fail
    refine (copy_any _ _ xs A.out hl).mono ?_
    rintro r w1 ⟨v1, rfl, i1, b1⟩
    have I1 := Lib.hid i1
    have B1 := Lib.hid b1
    clear i1 b1
    go_wp2_with fail
    refine (HS.out _ v1 I1.out.at).mono ?_
    rintro r w2 ⟨v2, rfl, i2, b2⟩
    have I2 := Lib.hid i2
    have B2 := Lib.hid b2
    have A2 := Lib.hid ((A.out.below B1.out (Nat.le_refl _)).below B2.out (Nat.le_refl _))
    clear i2 b2
    go_wp2_with fail
    refine (copy_any _ _ xs A2.out hl).mono ?_
    rintro r w3 ⟨v3, rfl, i3, b3⟩
    have I3 := Lib.hid i3
    have B3 := Lib.hid b3
    clear i3 b3
    go_wp2_with fail
    refine (HI.out _ v3 I3.out.at I3.out.cap).mono ?_
    rintro r w4 ⟨v4, rfl, i4, b4⟩
    have I4 := Lib.hid i4
    have B4 := Lib.hid b4
    have I2' := Lib.hid ((I2.out.below B3.out (Nat.le_refl _)).below B4.out (Nat.le_refl _))
    have I3' := Lib.hid (I3.out.below B4.out (Nat.le_refl _))
    have A4 := Lib.hid ((A2.out.below B3.out (Nat.le_refl _)).below B4.out (Nat.le_refl _))
    clear i4 b4
    go_wp2_with fail
    refine (eq_same _ _ _ ys I4.out.at I2'.out.at).mono ?_
    rintro r w5 ⟨rfl, k5, rfl⟩
    go_wp2_with fail
    refine (copy_any _ _ xs (A4.out.drewN k5) hl).mono ?_
    rintro r w6 ⟨v6, rfl, i6, b6⟩
    have I6 := Lib.hid i6
    have B6 := Lib.hid b6
    have I2a := Lib.hid ((I2'.out.drewN k5).below B6.out (Nat.le_refl _))
    have I3a := Lib.hid ((I3'.out.drewN k5).below B6.out (Nat.le_refl _))
    have I4a := Lib.hid ((I4.out.drewN k5).below B6.out (Nat.le_refl _))
    clear i6 b6
    go_wp2_with fail
    refine (eq_same _ _ _ xs I3a.out.at I6.out.at).mono ?_
    rintro r w7 ⟨rfl, k7, rfl⟩
    go_wp2_with fail
    refine (mark_own _ _ v3 xs 1 (I3a.out.drewN k7) (by omega) (by omega)).mono ?_
    rintro r w8 ⟨rfl, j8, g8, s8⟩
    have S32 := (I2.out.sep I3.out (Nat.le_refl _))
    have S43 := (I3.out.sep I4.out (Nat.le_refl _))
    have S42 := (I2.out.sep I4.out (by have := B3.out.size; exact this))
    have I2b := Lib.hid ((I2a.out.drewN k7).grown g8 S32.1)
    have I4b := Lib.hid ((I4a.out.drewN k7).grown g8 S43.2)
    have b8 := below_of_grown g8 (B := w2.heap.size) (by have a1 := B3.out.size; have a2 := B4.out.size; have a3 : w4.heap.size ≤ w6.heap.size := B6.out.size; show w2.heap.size ≤ w6.heap.size; omega) (fun k hk => (World.ownsRow.lt I3.out k hk).1)
    have B8 := Lib.hid b8
    have S42' := Lib.hid S42
    clear j8 g8 b8 S32 S43 S42
    have t8 : decide ((1 : Int) + (xs.length : Int) < 0) = false := by simp; omega
    go_wp2_with fail
    refine (eq_same _ _ _ ys I4b.out.at I2b.out.at).mono ?_
    rintro r w9 ⟨rfl, k9, rfl⟩
    go_wp2_with fail
    refine (mark_own _ _ v4 ys 1 (I4b.out.drewN k9) (by omega) (by omega)).mono ?_
    rintro r w10 ⟨rfl, j10, g10, s10⟩
    have J10 := Lib.hid j10
    have I2c := Lib.hid ((I2b.out.drewN k9).grown g10 S42'.out.1)
    have b10 := below_of_grown g10 (B := w3.heap.size) (by have a2 := B4.out.size; have a3 : w4.heap.size ≤ w6.heap.size := B6.out.size; have a4 : w8.heap.size = w6.heap.size := s8; show w3.heap.size ≤ w8.heap.size; omega) (fun k hk => (World.ownsRow.lt I4.out k hk).1)
    have B10 := Lib.hid b10
    have T2 := Lib.hid (t_step B1.out B2.out)
    have T6 := Lib.hid (t_step (below_drewN (t_step (t_step T2.out B3.out) B4.out) k5) B6.out)
    have T8 := Lib.hid ((below_drewN T6.out k7).trans (B8.out.mono T2.out.size))
    have T10 := Lib.hid ((below_drewN T8.out k9).trans (B10.out.mono (Nat.le_trans T2.out.size B3.out.size)))
    have A10 := Lib.hid (A.out.below T10.out (Nat.le_refl _))
    clear j10 g10 b10
    go_wp2_with fail
    refine (held_marks _ v4 1 ys.length J10.out.at (by omega) (by omega)).mono ?_
    rintro r w11 ⟨rfl, rfl⟩
    go_wp2_with fail
    refine (copy_any _ _ xs A10.out hl).mono ?_
    rintro r w12 ⟨v12, rfl, i12, b12⟩
    have I12 := Lib.hid i12
    have B12 := Lib.hid b12
    clear i12 b12
    go_wp2_with fail
    refine (HI.out _ v12 I12.out.at I12.out.cap).mono ?_
    rintro r w13 ⟨v13, rfl, i13, b13⟩
    have I13 := Lib.hid i13
    have B13 := Lib.hid b13
    clear i13 b13
    go_wp2_with fail
    refine (eq_same _ _ _ ys I13.out.at ((I2c.out.below B12.out (Nat.le_refl _)).below B13.out (Nat.le_refl _)).at).mono ?_
    rintro r w14 ⟨rfl, k14, rfl⟩
    go_wp2_with fail
    refine (held_marks _ v4 1 ys.length ((((J10.out.below B12.out (Nat.le_refl _)).below B13.out (Nat.le_refl _)).drewN k14).at) (by omega) (by omega)).mono ?_
    rintro r w15 ⟨rfl, rfl⟩
    go_wp2
    go_ret
    exact ⟨rfl, below_drewN (t_step (t_step T10.out B12.out) B13.out) _⟩
end Go.Proofs.Ytocjdjgfadaljaa
