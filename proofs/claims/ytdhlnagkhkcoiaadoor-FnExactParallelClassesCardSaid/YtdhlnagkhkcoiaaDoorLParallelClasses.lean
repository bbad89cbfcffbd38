/- ParallelClasses: the law. -/
import Derived.Test.YtdhlnagkhkcoiaaDoorPci
import Derived.Test.YtdhlnagkhkcoiaaDoorDst
namespace Go.Proofs.YtdhlnagkhkcoiaaDoor
open Go.RowKit
set_option linter.unusedVariables false

set_option maxRecDepth 100000 in
set_option maxHeartbeats 4000000 in
theorem law_FnExactParallelClasses (n : Int) (v0 : Value) (xs : List (List Int)) (w : World) (_ : (Lit.int .i64 n).wf = true) (hv : RowsAt w v0 xs) (hx : ∀ r ∈ xs, ∀ x ∈ r, I64 x) (ht : Tab w) :
    Calls Tryd.prog 5 #[.agg #[.int .i64 n, v0]] w fun e w' => e = .returned (.bool true) ∧ Below w.heap.size w w' := by
  obtain ⟨a, cap, rfl, -⟩ := hv.shape
  obtain ⟨len, hlen⟩ : ∃ l, xs.length = l := ⟨_, rfl⟩
  rw [hlen] at hv ⊢
  have HL := Lib.hid hlen
  have S1 := Arg.new n 24 hv
  have hpos := ht.pos
  have TB := Lib.hid (fun W (h : Below w.heap.size w W) => ht.below h hpos)
  have HZ := Lib.hid (fun W (h : RowsAt W (.slice a len cap) xs) => sz_Design W n _ xs 1048576 h (by omega) (by omega))
  have HS := fun W v h => sParallelClasses n xs W v h
  have ln := lenParallelClasses_0 n xs
  have HI0 := Lib.hid (fun hl W v h t => iParallelClasses n xs hl W v h t)
  obtain ⟨z0, hz0⟩ : ∃ z, ParallelClasses_0 n xs = z := ⟨_, rfl⟩
  obtain ⟨z1, hz1⟩ : ∃ z, ParallelClasses_1 n xs = z := ⟨_, rfl⟩
  rw [hz0] at ln
  simp only [hz0, hz1] at HS HI0
  have HS := Lib.hid HS
  have tz1 : (z1 != z1) = false := by simp
  obtain ⟨w1, hw1⟩ : ∃ w1, w.alloc (.cells #[.int .i64 n, .slice a len cap] 24) = w1 := ⟨_, rfl⟩
  obtain ⟨A, hA⟩ : ∃ A, w.heap.size = A := ⟨_, rfl⟩
  rw [hw1, hA] at S1
  clear hz0 hz1 hv hx hlen ht hpos
  obtain ⟨c0, c1⟩ := S1.out.2.2.1.cells
  go_enter Tryd.func5, Tryd.ntmps5
  go_wp2_with fail
  try rw [hw1]
  refine (HZ.out _ (Arg.rows S1)).mono ?_
  rintro e w2 ⟨q, rfl, hq, b2⟩
  have S2 := Arg.next S1 b2
  clear b2 c0 c1 hw1 HZ
  by_cases k : q < 0
  · have t : decide (q < 0) = true := decide_eq_true k
    go_wp2
    go_ret
    exact ⟨rfl, S2.out.2.2.2⟩
  have t : decide (q < 0) = false := decide_eq_false k
  obtain ⟨hq1, -⟩ := hq (by omega)
  have HTo := Lib.hid (fun W (h : RowsAt W (.slice a len cap) xs) => copy_Design W n _ xs h (by omega))
  have HI := Lib.hid (HI0.out (by omega))
  have HE := Lib.hid (fun u u' W (h1 : RowsAt W u xs) (h2 : RowsAt W u' xs) => eq_Design W n u u' xs h1 h2)
  have TQ : tot xs ≤ 1048576 := by omega
  clear hq HI0
  obtain ⟨c0, c1⟩ := S2.out.2.2.1.cells
  go_wp2_with fail
  refine (HTo.out _ (Arg.rows S2)).mono ?_
  rintro e w3 ⟨v3, rfl, i3, b3⟩
  have S3 := Arg.next S2 b3
  have I3 := Lib.hid i3.at
  clear i3 b3 c0 c1 S2
  go_wp2_with fail
  refine (HS.out _ _ I3.out).mono ?_
  rintro e w4 ⟨u4, rfl, i4, b4⟩
  have S4 := Arg.next S3 b4
  have M4 := Lib.hid i4
  clear I3 i4 b4 S3 HS
  obtain ⟨c0, c1⟩ := S4.out.2.2.1.cells
  go_wp2_with fail
  refine (HTo.out _ (Arg.rows S4)).mono ?_
  rintro e w5 ⟨v5, rfl, i5, b5⟩
  have S5 := Arg.next S4 b5
  have lA := S4.out.2.2.1.lt
  obtain ⟨b, hb⟩ : ∃ b, w4.heap.size = b := ⟨_, rfl⟩
  rw [hb] at i5 b5 lA
  have s5 : b ≤ w5.heap.size := by rw [← hb]; exact b5.size
  have U5 : Below b w4 w5 := b5
  obtain ⟨a5, cap5, e5, -⟩ := i5.at.shape
  rw [HL.out] at e5
  subst e5
  have C6 := Cpy.new n 27 i5 s5
  have ba : Below w5.heap.size w5 (w5.alloc (.cells #[.int .i64 n, .slice a5 len cap5] 27)) := (Below.refl _ _).alloc (Nat.le_refl _) _
  have S6 := Arg.next S5 ba
  have U6 : Below b w4 (w5.alloc (.cells #[.int .i64 n, .slice a5 len cap5] 27)) := U5.trans (ba.mono s5)
  have sX := World.size_alloc w5 (.cells #[.int .i64 n, .slice a5 len cap5] 27)
  obtain ⟨X, hX⟩ : ∃ X, w5.heap.size = X := ⟨_, rfl⟩
  obtain ⟨w6, hw6⟩ : ∃ w6, w5.alloc (.cells #[.int .i64 n, .slice a5 len cap5] 27) = w6 := ⟨_, rfl⟩
  rw [hX] at C6 sX s5
  rw [hw6] at C6 S6 U6 sX
  have HU6 := Lib.hid U6
  have HM4 := Lib.hid (fun W (u : Below b w4 W) => M4.out.below u (Nat.le_of_eq hb))
  clear i5 b5 c0 c1 S4 S5 U5 U6 ba hb M4
  obtain ⟨d0, d1⟩ := C6.out.1.cells
  go_wp2_with fail
  try rw [hw6]
  refine (HI.out _ _ C6.out.2.1.at (TB.out _ S6.out.2.2.2)).mono ?_
  rintro e w7 ⟨g7, rfl, i7, b7⟩
  have S7 := Arg.next S6 b7
  have C7 := Cpy.next C6 b7
  have U7 := HU6.out.trans (b7.mono (by omega))
  have G7 := Lib.hid i7
  rw [sX] at G7
  have HU7 := Lib.hid U7
  obtain ⟨gh, hgh⟩ : ∃ gh, w7.heap.size = gh := ⟨_, rfl⟩
  rw [hgh] at G7
  clear i7 b7 d0 d1 U7 hw6 hX S6 C6 HU6 hgh sX
  go_wp2_with fail
  refine (eq_rows _ _ _ z0 (G7.out.at) (HM4.out _ HU7.out)).mono ?_
  rintro e w8 ⟨rfl, k8, rfl⟩
  obtain ⟨P, hP⟩ : ∃ P : World → Prop, P = fun W => RowsL W (X + 1) gh g7 z0 ∧ Below b w4 W ∧ b ≤ W.heap.size := ⟨_, rfl⟩
  have KP : Keeps P := fun W W' hb h => by
    rw [hP] at h ⊢
    exact ⟨h.1.below hb (Nat.le_refl _), h.2.1.trans (hb.mono h.2.2), Nat.le_trans h.2.2 hb.size⟩
  have PO : Hid (∀ W, P W → RowsL W (X + 1) gh g7 z0 ∧ Below b w4 W ∧ b ≤ W.heap.size) := fun W h => by rw [hP] at h; exact h
  have D7 : Hid (StD P w A X b n (.slice a len cap) (.slice a5 len cap5) xs w7) := ⟨S7.out, C7.out, by rw [hP]; exact ⟨G7.out, HU7.out, by have := C7.out.1.lt; omega⟩⟩
  have D8 := StD.next KP D7 (below_drewN (Below.refl _ _) k8)
  have D8d := StD.next KP D8 (Below.refl _ _).drew
  obtain ⟨w8, hw8⟩ : ∃ w8, w7.drewN k8 = w8 := ⟨_, rfl⟩
  rw [hw8] at D8 D8d
  try rw [hw8]
  clear hP D7 S7 C7 G7 HU7
  go_upto_region 10 with fail
  try rw [hw8]
  clear hw8
  go_region_held3 (fun w' => (w'.cell? ⟨A, 0, none⟩ = some (.int .i64 n) ∧ w'.cell? ⟨A, 1, none⟩ = some (.slice a len cap)) ∧ (w'.cell? ⟨X, 0, none⟩ = some (.int .i64 n) ∧ w'.cell? ⟨X, 1, none⟩ = some (.slice a5 len cap5)) ∧ Hid (StD P w A X b n (.slice a len cap) (.slice a5 len cap5) xs w')) (first | exact held_std (by assumption))
    (first | (go_at_call 10; refine (HTo.out _ (Arg.rows (Lib.hid (Hid.out (by assumption : Hid (StD P w A X b n (.slice a len cap) (.slice a5 len cap5) xs _))).1))).mono ?_; rintro e w9 ⟨v9, rfl, i9, b9⟩; have D9 := StD.next KP (by assumption) b9; have I9 := Lib.hid i9.at) | (go_at_call 12; refine (HE.out _ _ _ D9.out.2.1.2.1.at I9.out).mono ?_; rintro e wa ⟨rfl, ba⟩; have Da := StD.next KP D9 ba))
  clear D8 D8d D9 I9
  obtain ⟨d0, d1⟩ := Da.out.2.1.1.cells
  go_wp2_with fail
  refine (mark_Design _ b X n _ xs 1 Da.out.2.1.2.1 (by omega) (by omega)).mono ?_
  rintro e wb ⟨rfl, mb⟩
  have bb : Below wa.heap.size wa (wa.alloc (.cells #[.int .i64 n, .slice a5 len cap5] 27)) := (Below.refl _ _).alloc (Nat.le_refl _) _
  have Sb := Arg.mark (Arg.next (Lib.hid Da.out.1) bb) mb lA
  obtain ⟨g1, g2, g3⟩ := PO.out _ Da.out.2.2
  have Gb := Lib.hid ((g1.below bb (Nat.le_refl _)).keep mb (by omega))
  have Ub := Lib.hid ((g2.trans (bb.mono g3)).trans mb.below)
  have zb : b ≤ wb.heap.size := by have := mb.below.size; have := bb.size; omega
  obtain ⟨kq, hkq⟩ : ∃ q : Int, 1 + (tot xs : Int) = q := ⟨_, rfl⟩
  rw [hkq]
  have kq0 : 0 ≤ kq := by omega
  have fq : decide (kq < 0) = false := decide_eq_false (by omega)
  clear hkq bb mb g1 g2 g3 d0 d1 Da
  go_wp2_with fail
  refine (eq_rows _ _ _ z0 (Gb.out.at) (HM4.out _ Ub.out)).mono ?_
  rintro e wc ⟨rfl, kc, rfl⟩
  have Sc := Arg.next Sb (below_drewN (Below.refl _ _) kc)
  have Gc : Hid (RowsL (wb.drewN kc) (X + 1) gh g7 z0) := Gb.out.drewN kc
  have Uc : Hid (Below b w4 (wb.drewN kc)) := below_drewN Ub.out kc
  clear Sb Gb Ub
  go_wp2_with fail
  refine (mark_rows _ _ _ g7 z0 1 Gc.out (by omega) (by omega)).mono ?_
  rintro e wd ⟨rfl, id, md⟩
  have Gd := Lib.hid id
  have Sd := Arg.mark Sc md (by omega)
  have Ud := Lib.hid (Uc.out.trans (md.below.mono (by omega)))
  have zd : b ≤ wd.heap.size := by have : wd.heap.size = wb.heap.size := md.size; omega
  obtain ⟨q2, hq2⟩ : ∃ q : Int, 1 + (tot z0 : Int) = q := ⟨_, rfl⟩
  rw [hq2]
  have q20 : 0 ≤ q2 := by omega
  have f2 : decide (q2 < 0) = false := decide_eq_false (by omega)
  have e2 : (q2 != q2) = false := by simp
  have HQ2 := Lib.hid hq2
  clear id md Gc Sc Uc hq2
  go_wp2_with fail
  refine (held_rows _ _ 1 z0 (Gd.out.at) (by omega) (by omega)).mono ?_
  rintro e wh ⟨rfl, kh1, rfl⟩
  rw [HQ2.out]
  have Se := Arg.next Sd (below_drewN (Below.refl _ _) kh1)
  have Ge : Hid (RowsL (wd.drewN kh1) (X + 1) gh g7 (marksR 1 z0)) := Gd.out.drewN kh1
  have Ue : Hid (Below b w4 (wd.drewN kh1)) := below_drewN Ud.out kh1
  have ze : b ≤ (wd.drewN kh1).heap.size := zd
  clear Sd Gd Ud zd
  obtain ⟨c0, c1⟩ := Se.out.2.2.1.cells
  go_wp2_with fail
  refine (HTo.out _ (Arg.rows Se)).mono ?_
  rintro e wf ⟨vf, rfl, i_f, bf⟩
  have Sf := Arg.next Se bf
  have If := Lib.hid i_f.at
  have Gf := Lib.hid (Ge.out.below bf (Nat.le_refl _))
  have Uf := Lib.hid (Ue.out.trans (bf.mono ze))
  have zf : b ≤ wf.heap.size := by have := bf.size; omega
  clear i_f bf c0 c1 Se Ge Ue
  go_wp2_with fail
  refine (HI.out _ _ If.out (TB.out _ Sf.out.2.2.2)).mono ?_
  rintro e wg ⟨gg, rfl, ig, bg⟩
  have Sg := Arg.next Sf bg
  have Ig := Lib.hid ig.at
  have Gg := Lib.hid (Gf.out.below bg (Nat.le_refl _))
  have Ug := Lib.hid (Uf.out.trans (bg.mono zf))
  clear ig bg Sf Gf Uf If
  go_wp2_with fail
  refine (eq_rows _ _ _ z0 Ig.out (HM4.out _ Ug.out)).mono ?_
  rintro e wi ⟨rfl, ki, rfl⟩
  have Si := Arg.next Sg (below_drewN (Below.refl _ _) ki)
  have Gi : Hid (RowsL (wg.drewN ki) (X + 1) gh g7 (marksR 1 z0)) := Gg.out.drewN ki
  clear Sg Gg Ug Ig
  go_wp2_with fail
  refine (held_rows _ _ 1 z0 (Gi.out.at) (by omega) (by omega)).mono ?_
  rintro e wh ⟨rfl, kh2, rfl⟩
  rw [HQ2.out]
  go_wp2
  go_ret
  exact ⟨rfl, by first | exact below_drewN Si.out.2.2.2 _ | (rw [← World.drewN_drewN]; exact below_drewN Si.out.2.2.2 _)⟩
end Go.Proofs.YtdhlnagkhkcoiaaDoor
