/- ResidualDesign: the law. -/
import Derived.Test.YtanfodbpgpfjmaaDoorDpm
import Derived.Test.YtanfodbpgpfjmaaDoorDlw
namespace Go.Proofs.YtanfodbpgpfjmaaDoor
open Go.RowKit
set_option linter.unusedVariables false
set_option linter.unusedSimpArgs false

set_option maxRecDepth 100000 in
set_option maxHeartbeats 4000000 in
theorem law_FnExactResidualDesign (n : Int) (v0 : Value) (xs : List (List Int)) (x1 : Int) (w : World) (_ : (Lit.int .i64 n).wf = true) (hv : RowsAt w v0 xs) (hx : ∀ r ∈ xs, ∀ x ∈ r, I64 x) (wf1 : (Lit.int .i64 x1).wf = true) (ht : Tab w) :
    Calls Tryd.prog 5 #[.agg #[.int .i64 n, v0], .int .i64 x1] w fun e w' => e = .returned (.bool true) ∧ Below w.heap.size w w' := by
  obtain ⟨a, cap, rfl, -⟩ := hv.shape
  obtain ⟨len, hlen⟩ : ∃ l, xs.length = l := ⟨_, rfl⟩
  rw [hlen] at hv ⊢
  have HL := Lib.hid hlen
  have S1 := Arg.new n 30 hv
  have hpos := ht.pos
  have TB := Lib.hid (fun W (h : Below w.heap.size w W) => ht.below h hpos)
  have HZ := Lib.hid (fun W (h : RowsAt W (.slice a len cap) xs) => sz_Design W n _ xs 1048576 h (by omega) (by omega))
  have HS := fun W v h => sResidualDesign n xs x1 W v h
  have HI0 := Lib.hid (fun hl W v h t => iResidualDesign n xs x1 hl W v h t)
  have LT := totResidualDesign n xs x1
  obtain ⟨zn, hzn⟩ : ∃ z, dpN n xs x1 (outY n xs x1) = z := ⟨_, rfl⟩
  obtain ⟨zl, hzl⟩ : ∃ z, dpL n xs x1 (outY n xs x1) = z := ⟨_, rfl⟩
  obtain ⟨zc, hzc⟩ : ∃ z, dpC n xs x1 (outY n xs x1) = z := ⟨_, rfl⟩
  rw [hzl] at LT
  simp only [hzn, hzl, hzc] at HS HI0
  have HS := Lib.hid HS
  have tzc : (zc != zc) = false := by simp
  obtain ⟨w1, hw1⟩ : ∃ w1, w.alloc (.cells #[.int .i64 n, .slice a len cap] 30) = w1 := ⟨_, rfl⟩
  obtain ⟨A, hA⟩ : ∃ A, w.heap.size = A := ⟨_, rfl⟩
  rw [hw1, hA] at S1
  clear hzn hzl hzc wf1 hv hx hlen ht hpos
  obtain ⟨c0, c1⟩ := S1.out.2.2.1.cells
  go_enter Tryd.func5, Tryd.ntmps5
  go_wp2_with fail
  try rw [hw1]
  refine (HZ.out _ (Arg.rows S1)).mono ?_
  rintro e w2 ⟨q, rfl, hq, b2⟩
  have S2 := Arg.next S1 b2
  clear b2 c0 c1 hw1 HZ
  by_cases k : q < 0
  · have t : decide (q < 0) = true := decide_eq_true k
    go_wp2
    go_ret
    exact ⟨rfl, S2.out.2.2.2⟩
  have t : decide (q < 0) = false := decide_eq_false k
  obtain ⟨hq1, -⟩ := hq (by omega)
  have HTo := Lib.hid (fun W (h : RowsAt W (.slice a len cap) xs) => copy_Design W n _ xs h (by omega))
  have HI := Lib.hid (HI0.out (by omega))
  have HE := Lib.hid (fun u u' W (h1 : RowsAt W u xs) (h2 : RowsAt W u' xs) => eq_Design W n u u' xs h1 h2)
  have TQ : tot xs ≤ 1048576 := by omega
  clear hq HI0
  obtain ⟨c0, c1⟩ := S2.out.2.2.1.cells
  go_wp2_with fail
  refine (HTo.out _ (Arg.rows S2)).mono ?_
  rintro e w3 ⟨v3, rfl, i3, b3⟩
  have S3 := Arg.next S2 b3
  have I3 := Lib.hid i3.at
  obtain ⟨b0, hb0⟩ : ∃ b, w3.heap.size = b := ⟨_, rfl⟩
  have AB0 : A < b0 := by rw [← hb0]; exact S3.out.2.2.1.lt
  clear i3 b3 c0 c1 S2
  -- the model's
  go_wp2_with fail
  refine (HS.out _ _ I3.out).mono ?_
  rintro e w4 ⟨u4, rfl, i4, b4⟩
  obtain ⟨a4, l4, q4, rfl⟩ : ∃ a l c, u4 = .slice a l c := by obtain ⟨a, c, e, -⟩ := i4.at.shape; exact ⟨a, _, c, e⟩
  have C5 := Cpy.new zn 24 i4 b4.size
  have b5 : Below w4.heap.size w4 (w4.alloc (.cells #[.int .i64 zn, .slice a4 l4 q4] 24)) := (Below.refl _ _).alloc (Nat.le_refl _) _
  have S5 := Arg.next (Arg.next S3 b4) b5
  have z5 := World.size_alloc w4 (.cells #[.int .i64 zn, .slice a4 l4 q4] 24)
  obtain ⟨P0, hP0⟩ : ∃ P, w4.heap.size = P := ⟨_, rfl⟩
  have BP : b0 ≤ P0 := by rw [← hb0, ← hP0]; exact b4.size
  obtain ⟨w5, hw5⟩ : ∃ W, w4.alloc (.cells #[.int .i64 zn, .slice a4 l4 q4] 24) = W := ⟨_, rfl⟩
  rw [hw5, hP0, hb0] at C5
  rw [hw5, hP0] at z5
  rw [hw5] at S5
  clear i4 b4 b5 I3 S3 HS
  obtain ⟨c0, c1⟩ := S5.out.2.2.1.cells
  -- the copy
  go_wp2_with fail
  try rw [hw5]
  clear hw5
  refine (HTo.out _ (Arg.rows S5)).mono ?_
  rintro e w6 ⟨v6, rfl, i6, b6⟩
  obtain ⟨a6, q6, e6, -⟩ := i6.at.shape
  rw [HL.out] at e6
  subst e6
  have X7 := Cpy.new n 24 i6 b6.size
  have b7 : Below w6.heap.size w6 (w6.alloc (.cells #[.int .i64 n, .slice a6 len q6] 24)) := (Below.refl _ _).alloc (Nat.le_refl _) _
  have S7 := Arg.next (Arg.next S5 b6) b7
  have C7 := Cpy.next (Cpy.next C5 b6) b7
  have z7 := World.size_alloc w6 (.cells #[.int .i64 n, .slice a6 len q6] 24)
  obtain ⟨X, hX⟩ : ∃ P, w6.heap.size = P := ⟨_, rfl⟩
  have PX : P0 < X := by have := b6.size; omega
  obtain ⟨w7, hw7⟩ : ∃ W, w6.alloc (.cells #[.int .i64 n, .slice a6 len q6] 24) = W := ⟨_, rfl⟩
  rw [hw7, hX, z5] at X7
  rw [hw7, hX] at z7
  rw [hw7] at S7 C7
  clear i6 b6 b7 S5 C5 c0 c1 z5
  obtain ⟨x0, x1⟩ := Cpy.cells X7
  -- the program's
  go_wp2_with fail
  try rw [hw7]
  clear hw7
  refine (HI.out _ _ (Cpy.at X7) (TB.out _ S7.out.2.2.2)).mono ?_
  rintro e w8 ⟨u8, rfl, i8, b8⟩
  obtain ⟨a8, l8, q8, rfl⟩ : ∃ a l c, u8 = .slice a l c := by obtain ⟨a, c, e, -⟩ := i8.at.shape; exact ⟨a, _, c, e⟩
  have G9 := Cpy.new zn 24 i8 b8.size
  have b9 : Below w8.heap.size w8 (w8.alloc (.cells #[.int .i64 zn, .slice a8 l8 q8] 24)) := (Below.refl _ _).alloc (Nat.le_refl _) _
  have S9 := Arg.next (Arg.next S7 b8) b9
  have C9 := Cpy.next (Cpy.next C7 b8) b9
  have X9 := Cpy.next (Cpy.next X7 b8) b9
  obtain ⟨P1, hP1⟩ : ∃ P, w8.heap.size = P := ⟨_, rfl⟩
  have XP : X < P1 := by have := b8.size; omega
  obtain ⟨w9, hw9⟩ : ∃ W, w8.alloc (.cells #[.int .i64 zn, .slice a8 l8 q8] 24) = W := ⟨_, rfl⟩
  rw [hw9, hP1, z7] at G9
  rw [hw9] at S9 C9 X9
  clear i8 b8 b9 S7 C7 X7 x0 x1
  obtain ⟨c0, c1⟩ := Cpy.cells C9
  obtain ⟨d0, d1⟩ := Cpy.cells G9
  go_wp2_with fail
  try rw [hw9]
  clear hw9
  refine (eq_Design _ zn _ _ zl (Cpy.at G9) (Cpy.at C9)).mono ?_
  rintro e wa ⟨rfl, ba⟩
  obtain ⟨P, hP⟩ : ∃ P : World → Prop, P = fun W => Cpy P0 b0 zn (.slice a4 l4 q4) 24 zl W ∧ Cpy P1 (X + 1) zn (.slice a8 l8 q8) 24 zl W := ⟨_, rfl⟩
  have KP : Keeps P := fun W W' hb h => by
    rw [hP] at h ⊢
    exact ⟨(Cpy.next (Lib.hid h.1) hb).out, (Cpy.next (Lib.hid h.2) hb).out⟩
  have PO : Hid (∀ W, P W → Cpy P0 b0 zn (.slice a4 l4 q4) 24 zl W ∧ Cpy P1 (X + 1) zn (.slice a8 l8 q8) 24 zl W) := fun W h => by rw [hP] at h; exact h
  have Da : Hid (StD P w A X (P0 + 1) n (.slice a len cap) (.slice a6 len q6) xs wa) := ⟨(Arg.next S9 ba).out, (Cpy.next X9 ba).out, by rw [hP]; exact ⟨(Cpy.next C9 ba).out, (Cpy.next G9 ba).out⟩⟩
  have Dad := StD.next KP Da (Below.refl _ _).drew
  clear hP ba c0 c1 d0 d1 S9 C9 X9 G9
  go_upto_region 10 with fail
  go_region_held3 (fun w' => (w'.cell? ⟨A, 0, none⟩ = some (.int .i64 n) ∧ w'.cell? ⟨A, 1, none⟩ = some (.slice a len cap)) ∧ (w'.cell? ⟨X, 0, none⟩ = some (.int .i64 n) ∧ w'.cell? ⟨X, 1, none⟩ = some (.slice a6 len q6)) ∧ Hid (StD P w A X (P0 + 1) n (.slice a len cap) (.slice a6 len q6) xs w')) (first | exact held_std (by assumption))
    (first | (go_at_call 14; refine (HTo.out _ (Arg.rows (Lib.hid (Hid.out (by assumption : Hid (StD P w A X (P0 + 1) n (.slice a len cap) (.slice a6 len q6) xs _))).1))).mono ?_; rintro e wc ⟨v9, rfl, i9, b9⟩; have Dc := StD.next KP (by assumption) b9; have I9 := Lib.hid i9.at) | (go_at_call 9; refine (HE.out _ _ _ Dc.out.2.1.2.1.at I9.out).mono ?_; rintro e wd ⟨rfl, bd⟩; have Dd := StD.next KP Dc bd))
  clear Da Dad Dc I9
  obtain ⟨x0, x1⟩ := Dd.out.2.1.1.cells
  go_wp2_with fail
  refine (mark_Design _ (P0 + 1) X n _ xs 1 Dd.out.2.1.2.1 (by omega) (by omega)).mono ?_
  rintro e we ⟨rfl, me⟩
  have be : Below wd.heap.size wd (wd.alloc (.cells #[.int .i64 n, .slice a6 len q6] 24)) := (Below.refl _ _).alloc (Nat.le_refl _) _
  have Se := Arg.mark (Arg.next (Lib.hid Dd.out.1) be) me (by omega)
  obtain ⟨g1, g2⟩ := PO.out _ Dd.out.2.2
  have Ce := Cpy.keep (Cpy.next (Lib.hid g1) be) me (.inl (by omega))
  have Ge := Cpy.keep (Cpy.next (Lib.hid g2) be) me (.inr (by omega))
  obtain ⟨kq, hkq⟩ : ∃ q : Int, 1 + (tot xs : Int) = q := ⟨_, rfl⟩
  rw [hkq]
  have fq : decide (kq < 0) = false := decide_eq_false (by omega)
  clear hkq be me g1 g2 x0 x1 Dd
  obtain ⟨c0, c1⟩ := Cpy.cells Ce
  obtain ⟨d0, d1⟩ := Cpy.cells Ge
  go_wp2_with fail
  refine (eq_Design _ zn _ _ zl (Cpy.at Ge) (Cpy.at Ce)).mono ?_
  rintro e wf ⟨rfl, bf⟩
  have Sf := Arg.next Se bf
  have Cf := Cpy.next Ce bf
  have Gf := Cpy.next Ge bf
  clear bf c0 c1 d0 d1 Se Ce Ge
  obtain ⟨d0, d1⟩ := Cpy.cells Gf
  go_wp2_with fail
  refine (mark_DesignR _ (X + 1) P1 zn _ zl 1 Gf.out.2.1 (by omega) (by omega)).mono ?_
  rintro e wg ⟨rfl, rg, mg⟩
  have bg : Below wf.heap.size wf (wf.alloc (.cells #[.int .i64 zn, .slice a8 l8 q8] 24)) := (Below.refl _ _).alloc (Nat.le_refl _) _
  have Sg := Arg.mark (Arg.next Sf bg) mg (by omega)
  have Cg := Cpy.keep (Cpy.next Cf bg) mg (.inl (by omega))
  have Gg := Cpy.marked (Cpy.next Gf bg) mg rg
  obtain ⟨q2, hq2⟩ : ∃ q : Int, 1 + (tot zl : Int) = q := ⟨_, rfl⟩
  rw [hq2]
  have f2 : decide (q2 < 0) = false := decide_eq_false (by omega)
  have e2 : (q2 != q2) = false := by simp
  have HQ2 := Lib.hid hq2
  clear bg mg rg hq2 d0 d1 Sf Cf Gf
  obtain ⟨d0, d1⟩ := Cpy.cells Gg
  go_wp2_with fail
  refine (held_Design _ zn _ zl 1 (Cpy.at Gg) (by omega) (by omega)).mono ?_
  rintro e wh ⟨rfl, bh⟩
  rw [HQ2.out]
  have Sh := Arg.next Sg bh
  have Ch := Cpy.next Cg bh
  have Gh := Cpy.next Gg bh
  clear bh d0 d1 Sg Cg Gg
  obtain ⟨c0, c1⟩ := Sh.out.2.2.1.cells
  go_wp2_with fail
  refine (HTo.out _ (Arg.rows Sh)).mono ?_
  rintro e wi ⟨vi, rfl, ii, bi⟩
  have Si := Arg.next Sh bi
  have Ci := Cpy.next Ch bi
  have Gi := Cpy.next Gh bi
  have Ii := Lib.hid ii.at
  clear ii bi c0 c1 Sh Ch Gh
  go_wp2_with fail
  refine (HI.out _ _ Ii.out (TB.out _ Si.out.2.2.2)).mono ?_
  rintro e wj ⟨uj, rfl, ij, bj⟩
  obtain ⟨aj, lj, qj, rfl⟩ : ∃ a l c, uj = .slice a l c := by obtain ⟨a, c, e, -⟩ := ij.at.shape; exact ⟨a, _, c, e⟩
  have Fk := Cpy.new zn 24 ij bj.size
  have bk : Below wj.heap.size wj (wj.alloc (.cells #[.int .i64 zn, .slice aj lj qj] 24)) := (Below.refl _ _).alloc (Nat.le_refl _) _
  have Sk := Arg.next (Arg.next Si bj) bk
  have Ck := Cpy.next (Cpy.next Ci bj) bk
  have Gk := Cpy.next (Cpy.next Gi bj) bk
  obtain ⟨wk, hwk⟩ : ∃ W, wj.alloc (.cells #[.int .i64 zn, .slice aj lj qj] 24) = W := ⟨_, rfl⟩
  rw [hwk] at Fk Sk Ck Gk
  obtain ⟨P2, hP2⟩ : ∃ P, wj.heap.size = P := ⟨_, rfl⟩
  rw [hP2] at Fk
  clear ij bj bk Si Ci Gi Ii
  obtain ⟨c0, c1⟩ := Cpy.cells Ck
  obtain ⟨d0, d1⟩ := Cpy.cells Fk
  go_wp2_with fail
  try rw [hwk]
  clear hwk
  refine (eq_Design _ zn _ _ zl (Cpy.at Fk) (Cpy.at Ck)).mono ?_
  rintro e wl ⟨rfl, bl⟩
  have Sl := Arg.next Sk bl
  have Gl := Cpy.next Gk bl
  clear bl c0 c1 d0 d1 Sk Ck Gk Fk
  obtain ⟨d0, d1⟩ := Cpy.cells Gl
  go_wp2_with fail
  refine (held_Design _ zn _ zl 1 (Cpy.at Gl) (by omega) (by omega)).mono ?_
  rintro e wm ⟨rfl, bm⟩
  rw [HQ2.out]
  have Sm := Arg.next Sl bm
  clear bm d0 d1 Sl Gl
  go_wp2
  go_ret
  exact ⟨rfl, Sm.out.2.2.2⟩
end Go.Proofs.YtanfodbpgpfjmaaDoor
