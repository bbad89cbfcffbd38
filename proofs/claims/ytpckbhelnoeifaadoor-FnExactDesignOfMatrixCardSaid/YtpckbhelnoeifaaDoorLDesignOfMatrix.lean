/- DesignOfMatrix: the law. -/
import Derived.Test.YtpckbhelnoeifaaDoorMai
namespace Go.Proofs.YtpckbhelnoeifaaDoor
open Go.RowKit
set_option linter.unusedVariables false
set_option linter.unusedSimpArgs false

set_option maxRecDepth 100000 in
set_option maxHeartbeats 4000000 in
theorem law_FnExactDesignOfMatrix (v1 : Value) (x1 : List (List Int)) (w : World) (h1 : RowsAt w v1 x1) (hx1 : ∀ r ∈ x1, ∀ x ∈ r, I64 x) (ht : Tab w) :
    Calls Tryd.prog 11 #[v1] w fun r w' => r = .returned (.bool true) ∧ Below w.heap.size w w' := by
  have hpos := ht.pos
  have TB := Lib.hid (fun W (h : Below w.heap.size w W) => ht.below h hpos)
  have HZ := Lib.hid (sz_rows w v1 x1 1048576 h1 (by omega) (by omega))
  have HS0 := Lib.hid (fun W v k => sDesignOfMatrix x1 W v k)
  have HI0 := Lib.hid (fun W v k t => iDesignOfMatrix x1 W v k t)
  have HR := Lib.hid (fun W (h : Below w.heap.size w W) => h1.below h (Nat.le_refl _))
  obtain ⟨zn, hzn⟩ : ∃ z, DesignOfMatrix_N x1 = z := ⟨_, rfl⟩
  obtain ⟨zl, hzl⟩ : ∃ z, DesignOfMatrix_L x1 = z := ⟨_, rfl⟩
  obtain ⟨zc, hzc⟩ : ∃ z, DesignOfMatrix_C x1 = z := ⟨_, rfl⟩
  have LT : Hid (tot zl ≤ 5000) := by rw [← hzl]; exact totDesignOfMatrix x1
  simp only [hzn, hzl, hzc] at HS0 HI0
  have tzc : (zc != zc) = false := by simp
  obtain ⟨a, cap, rfl, -⟩ := h1.shape
  obtain ⟨len, hlen⟩ : ∃ l, x1.length = l := ⟨_, rfl⟩
  have HL := Lib.hid hlen
  rw [hlen] at HZ HR ⊢
  clear hzn hzl hzc h1 hx1 hlen ht
  go_enter Tryd.func11, Tryd.ntmps11
  go_wp2_with fail
  refine HZ.out.mono ?_
  rintro e w2 ⟨q, rfl, hq, d, rfl⟩
  by_cases k : q < 0
  · have t : decide (q < 0) = true := decide_eq_true k
    go_wp2
    go_ret
    exact ⟨rfl, below_drewN (Below.refl _ _) _⟩
  have t : decide (q < 0) = false := decide_eq_false k
  obtain ⟨hq1, -⟩ := hq (by omega)
  rw [← HL.out] at hq1
  have CP := Lib.hid (fun W v (h : RowsAt W v x1) => copy_rows W v x1 h (by omega))
  have HS := HS0
  have HI := HI0
  have TQ : tot zl ≤ 1048576 := by have := LT.out; omega
  have TX : tot x1 ≤ 1048576 := by omega
  have E2 := Lib.hid (below_drewN (Below.refl w.heap.size w) d)
  obtain ⟨w3, hw3⟩ : ∃ W, w.drewN d = W := ⟨_, rfl⟩
  rw [hw3] at E2 ⊢
  clear hw3 HS0 HI0 hq1 hq HZ
  go_wp2_with fail
  refine (CP.out _ _ (HR.out _ E2.out)).mono ?_
  rintro e w4 ⟨u4, rfl, i4, b4⟩
  have E4 := Lib.hid (E2.out.trans (b4.mono E2.out.size))
  have I4 := Lib.hid i4.at
  clear i4 b4 E2
  go_wp2_with fail
  refine (HS.out _ _ I4.out).mono ?_
  rintro e w5 ⟨u5, rfl, i5, b5⟩
  obtain ⟨a5, l5, c5, rfl⟩ : ∃ a l c, u5 = .slice a l c := by obtain ⟨a, c, e, -⟩ := i5.at.shape; exact ⟨a, _, c, e⟩
  have E5 := E4.out.trans (b5.mono E4.out.size)
  have C6 := Cpy.new zn 30 i5 b5.size
  have B6 : Below w5.heap.size w5 (w5.alloc (.cells #[.int .i64 zn, .slice a5 l5 c5] 30)) := (Below.refl _ _).alloc (Nat.le_refl _) _
  have E6 := Lib.hid (E5.trans (B6.mono E5.size))
  have s6 := World.size_alloc w5 (.cells #[.int .i64 zn, .slice a5 l5 c5] 30)
  obtain ⟨w6, hw6⟩ : ∃ W, w5.alloc (.cells #[.int .i64 zn, .slice a5 l5 c5] 30) = W := ⟨_, rfl⟩
  obtain ⟨P0, hP0⟩ : ∃ P, w5.heap.size = P := ⟨_, rfl⟩
  obtain ⟨b0, hb0⟩ : ∃ P, w4.heap.size = P := ⟨_, rfl⟩
  rw [hw6, hP0, hb0] at C6
  rw [hw6] at E6
  rw [hw6, hP0] at s6
  clear i5 b5 E5 B6 I4 E4
  go_wp2_with fail
  try rw [hw6]
  clear hw6
  refine (CP.out _ _ (HR.out _ E6.out)).mono ?_
  rintro e w7 ⟨u7, rfl, i7, b7⟩
  obtain ⟨a7, l7, c7, rfl⟩ : ∃ a l c, u7 = .slice a l c := by obtain ⟨a, c, e, -⟩ := i7.at.shape; exact ⟨a, _, c, e⟩
  obtain ⟨B7, hB7⟩ : ∃ P, w6.heap.size = P := ⟨_, rfl⟩
  have E7 := Lib.hid (E6.out.trans (b7.mono E6.out.size))
  have C7 := Cpy.next C6 b7
  obtain ⟨L7, hL7⟩ : ∃ P, w7.heap.size = P := ⟨_, rfl⟩
  have BL7 : B7 ≤ L7 := by rw [← hB7, ← hL7]; exact b7.size
  have PB : P0 < B7 := by omega
  have wB7 : w.heap.size ≤ B7 := by rw [← hB7]; exact E6.out.size
  rw [hB7, hL7] at i7
  have J7 := Lib.hid i7
  clear i7 b7 E6 C6 s6 hB7
  go_wp2_with fail
  refine (HI.out _ _ J7.out.at (TB.out _ E7.out)).mono ?_
  rintro e w8 ⟨u8, rfl, i8, b8⟩
  obtain ⟨a8, l8, c8, rfl⟩ : ∃ a l c, u8 = .slice a l c := by obtain ⟨a, c, e, -⟩ := i8.at.shape; exact ⟨a, _, c, e⟩
  have E8 := E7.out.trans (b8.mono E7.out.size)
  have C8 := Cpy.next C7 b8
  have J8 := J7.out.below b8 (Nat.le_refl _)
  have D9 := Cpy.new zn 30 i8 b8.size
  have B9 : Below w8.heap.size w8 (w8.alloc (.cells #[.int .i64 zn, .slice a8 l8 c8] 30)) := (Below.refl _ _).alloc (Nat.le_refl _) _
  have E9 := Lib.hid (E8.trans (B9.mono E8.size))
  have C9 := Cpy.next C8 B9
  have J9 := Lib.hid (J8.below B9 (Nat.le_refl _))
  obtain ⟨w9, hw9⟩ : ∃ W, w8.alloc (.cells #[.int .i64 zn, .slice a8 l8 c8] 30) = W := ⟨_, rfl⟩
  obtain ⟨P1, hP1⟩ : ∃ P, w8.heap.size = P := ⟨_, rfl⟩
  have LP : L7 ≤ P1 := by rw [← hL7, ← hP1]; exact b8.size
  rw [hw9, hP1, hL7] at D9
  rw [hw9] at E9 C9 J9
  clear i8 b8 E8 C8 J8 B9 E7 C7 J7
  obtain ⟨c0, c1⟩ := Cpy.cells C9
  obtain ⟨d0, d1⟩ := Cpy.cells D9
  go_wp2_with fail
  try rw [hw9]
  clear hw9
  refine (eq_Design _ zn _ _ zl (Cpy.at D9) (Cpy.at C9)).mono ?_
  rintro e wa ⟨rfl, ba⟩
  have Ea := Lib.hid (E9.out.trans (ba.mono E9.out.size))
  have Ca := Cpy.next C9 ba
  have Da := Cpy.next D9 ba
  have Ja := Lib.hid (J9.out.below ba (Nat.le_refl _))
  clear ba c0 c1 d0 d1 E9 C9 D9 J9
  go_wp2_with fail
  refine (CP.out _ _ (HR.out _ Ea.out)).mono ?_
  rintro e wb ⟨ub, rfl, ib, bb⟩
  have Eb := Lib.hid (Ea.out.trans (bb.mono Ea.out.size))
  have Cb := Cpy.next Ca bb
  have Db := Cpy.next Da bb
  have Jb := Lib.hid (Ja.out.below bb (Nat.le_refl _))
  have Ib := Lib.hid ib.at
  clear ib bb Ea Ca Da Ja
  go_wp2_with fail
  refine (eq_rows _ _ _ x1 Jb.out.at Ib.out).mono ?_
  rintro e wc' ⟨rfl, kc, rfl⟩
  have bc : Below wb.heap.size wb (wb.drewN kc) := below_drewN (Below.refl _ _) kc
  obtain ⟨wc, hwc⟩ : ∃ W, wb.drewN kc = W := ⟨_, rfl⟩
  rw [hwc] at bc ⊢
  have Ec := Lib.hid (Eb.out.trans (bc.mono Eb.out.size))
  have Cc := Cpy.next Cb bc
  have Dc := Cpy.next Db bc
  have Jc := Lib.hid (Jb.out.below bc (Nat.le_refl _))
  clear bc hwc Eb Cb Db Jb Ib
  go_wp2_with fail
  refine (mark_rows _ B7 L7 _ x1 1 Jc.out (by omega) (by omega)).mono ?_
  rintro e wd ⟨rfl, -, md⟩
  obtain ⟨kq, hkq⟩ : ∃ q : Int, 1 + (tot x1 : Int) = q := ⟨_, rfl⟩
  rw [hkq]
  have fq : decide (kq < 0) = false := decide_eq_false (by omega)
  have Ed := Lib.hid (Ec.out.trans (md.below.mono wB7))
  have Cd := Cpy.keep Cc md (.inl PB)
  have Dd := Cpy.keep Dc md (.inr (Nat.le_refl _))
  clear md hkq Ec Cc Dc Jc
  obtain ⟨c0, c1⟩ := Cpy.cells Cd
  obtain ⟨d0, d1⟩ := Cpy.cells Dd
  go_wp2_with fail
  refine (eq_Design _ zn _ _ zl (Cpy.at Dd) (Cpy.at Cd)).mono ?_
  rintro e we ⟨rfl, be⟩
  have Ee := Lib.hid (Ed.out.trans (be.mono Ed.out.size))
  have Ce := Cpy.next Cd be
  have De := Cpy.next Dd be
  clear be c0 c1 d0 d1 Ed Cd Dd
  obtain ⟨d0, d1⟩ := Cpy.cells De
  go_wp2_with fail
  refine (mark_DesignR _ L7 P1 zn _ zl 1 De.out.2.1 (by omega) (by omega)).mono ?_
  rintro e wf ⟨rfl, rf, mf⟩
  have bf : Below we.heap.size we (we.alloc (.cells #[.int .i64 zn, .slice a8 l8 c8] 30)) := (Below.refl _ _).alloc (Nat.le_refl _) _
  have Ef := Lib.hid ((Ee.out.trans (bf.mono Ee.out.size)).trans (mf.below.mono (by omega)))
  have Cf := Cpy.keep (Cpy.next Ce bf) mf (.inl (by omega))
  have Df := Cpy.marked (Cpy.next De bf) mf rf
  obtain ⟨q2, hq2⟩ : ∃ q : Int, 1 + (tot zl : Int) = q := ⟨_, rfl⟩
  rw [hq2]
  have f2 : decide (q2 < 0) = false := decide_eq_false (by omega)
  have e2 : (q2 != q2) = false := by simp
  have HQ2 := Lib.hid hq2
  clear bf mf rf hq2 d0 d1 Ee Ce De
  obtain ⟨d0, d1⟩ := Cpy.cells Df
  go_wp2_with fail
  refine (held_Design _ zn _ zl 1 (Cpy.at Df) (by omega) (by omega)).mono ?_
  rintro e wg ⟨rfl, bg⟩
  rw [HQ2.out]
  have Eg := Lib.hid (Ef.out.trans (bg.mono Ef.out.size))
  have Cg := Cpy.next Cf bg
  have Dg := Cpy.next Df bg
  clear bg d0 d1 Ef Cf Df
  go_wp2_with fail
  refine (CP.out _ _ (HR.out _ Eg.out)).mono ?_
  rintro e wh ⟨uh, rfl, ih, bh⟩
  obtain ⟨ah, lh, ch, rfl⟩ : ∃ a l c, uh = .slice a l c := by obtain ⟨a, c, e, -⟩ := ih.at.shape; exact ⟨a, _, c, e⟩
  have Eh := Lib.hid (Eg.out.trans (bh.mono Eg.out.size))
  have Ch := Cpy.next Cg bh
  have Dh := Cpy.next Dg bh
  have Ih := Lib.hid ih.at
  clear ih bh Eg Cg Dg
  go_wp2_with fail
  refine (HI.out _ _ Ih.out (TB.out _ Eh.out)).mono ?_
  rintro e wi ⟨ui, rfl, ii, bi⟩
  obtain ⟨ai, li, ci, rfl⟩ : ∃ a l c, ui = .slice a l c := by obtain ⟨a, c, e, -⟩ := ii.at.shape; exact ⟨a, _, c, e⟩
  have Ei := Eh.out.trans (bi.mono Eh.out.size)
  have Ci := Cpy.next Ch bi
  have Di := Cpy.next Dh bi
  have F9 := Cpy.new zn 30 ii bi.size
  have Bj : Below wi.heap.size wi (wi.alloc (.cells #[.int .i64 zn, .slice ai li ci] 30)) := (Below.refl _ _).alloc (Nat.le_refl _) _
  have Ej := Lib.hid (Ei.trans (Bj.mono Ei.size))
  have Cj := Cpy.next Ci Bj
  have Dj := Cpy.next Di Bj
  obtain ⟨wj, hwj⟩ : ∃ W, wi.alloc (.cells #[.int .i64 zn, .slice ai li ci] 30) = W := ⟨_, rfl⟩
  rw [hwj] at F9 Ej Cj Dj
  obtain ⟨P2, hP2⟩ : ∃ P, wi.heap.size = P := ⟨_, rfl⟩
  rw [hP2] at F9
  clear ii bi Ei Ci Di Bj Eh Ch Dh Ih
  obtain ⟨c0, c1⟩ := Cpy.cells Cj
  obtain ⟨d0, d1⟩ := Cpy.cells F9
  go_wp2_with fail
  try rw [hwj]
  clear hwj
  refine (eq_Design _ zn _ _ zl (Cpy.at F9) (Cpy.at Cj)).mono ?_
  rintro e wk ⟨rfl, bk⟩
  have Ek := Lib.hid (Ej.out.trans (bk.mono Ej.out.size))
  have Dk := Cpy.next Dj bk
  clear bk c0 c1 d0 d1 Ej Cj Dj F9
  obtain ⟨d0, d1⟩ := Cpy.cells Dk
  go_wp2_with fail
  refine (held_Design _ zn _ zl 1 (Cpy.at Dk) (by omega) (by omega)).mono ?_
  rintro e wl ⟨rfl, bl⟩
  rw [HQ2.out]
  have El := Lib.hid (Ek.out.trans (bl.mono Ek.out.size))
  clear bl d0 d1 Ek Dk
  go_wp2
  go_ret
  exact ⟨rfl, El.out⟩
end Go.Proofs.YtpckbhelnoeifaaDoor
