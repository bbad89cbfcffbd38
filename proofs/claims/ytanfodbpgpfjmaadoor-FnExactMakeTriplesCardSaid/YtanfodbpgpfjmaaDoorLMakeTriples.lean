/- MakeTriples: the law. -/
import Derived.Test.YtanfodbpgpfjmaaDoorMte
namespace Go.Proofs.YtanfodbpgpfjmaaDoor
open Go.RowKit
set_option linter.unusedVariables false
set_option linter.unusedSimpArgs false

theorem tot_short : ∀ (M : List (List Int)), (∀ r ∈ M, r.length = 3) → tot M = 3 * M.length
  | [], _ => rfl
  | r :: M, h => by rw [tot_cons, h r (List.mem_cons_self ..), tot_short M (fun x hx => h x (List.mem_cons_of_mem _ hx)), List.length_cons]; omega
theorem mt_tot {M : List (List Int)} {E : List Nat} (h : mtOk M E = true) : tot (dxL (E.map ptsN)) ≤ 1000 := by
  have hh := h
  unfold mtOk at h
  rw [Bool.and_eq_true, Bool.and_eq_true] at h
  obtain ⟨⟨hp, ha⟩, hl⟩ := h
  have P := List.isPerm_iff.1 hp
  have L := Nat.le_of_ble_eq_true hl
  have A : ∀ r ∈ M, r.length = 3 := fun r hr => Nat.eq_of_beq_eq_true (List.all_eq_true.1 ha r hr)
  have := (dxL_tot (E.map ptsN)).1
  rw [← tot_perm P, tot_short M A] at this
  omega
theorem MakeTriples_tot (v : Int) : tot (MakeTriples_L v) ≤ 1000 := by
  by_cases hm : v ∈ tol 28
  · rw [(mt_yes hm).2.1]
    rcases mt_cases hm with ⟨t, t1, t4, rfl⟩ | ⟨t, t4, rfl⟩
    · rw [mtL_even]; exact mt_tot (even_ok t1 t4)
    · rw [mtL_odd]; exact mt_tot (odd_ok t4)
  · rw [(mt_no hm).2.1, tot_nil]; omega

set_option maxRecDepth 100000 in
set_option maxHeartbeats 4000000 in
theorem law_FnExactMakeTriples (x0 : Int) (w : World) (wf0 : (Lit.int .i64 x0).wf = true) (ht : Tab w) :
    Calls Tryd.prog 3 #[.int .i64 x0] w fun r w' => r = .returned (.bool true) ∧ Below w.heap.size w w' := by
  have hpos := ht.pos
  have TB := Lib.hid (fun W (h : Below w.heap.size w W) => ht.below h hpos)
  have HS := Lib.hid (fun W => sMakeTriples x0 W)
  have HI := Lib.hid (fun W t => iMakeTriples x0 W t)
  have LT := Lib.hid (MakeTriples_tot x0)
  obtain ⟨zn, hzn⟩ : ∃ z, MakeTriples_N x0 = z := ⟨_, rfl⟩
  obtain ⟨zl, hzl⟩ : ∃ z, MakeTriples_L x0 = z := ⟨_, rfl⟩
  obtain ⟨zc, hzc⟩ : ∃ z, MakeTriples_C x0 = z := ⟨_, rfl⟩
  simp only [hzn, hzl, hzc] at HS HI LT
  have TQ : tot zl ≤ 1048576 := by have := LT.out; omega
  have tzc : (zc != zc) = false := by simp
  have E4 := Lib.hid (Below.refl w.heap.size w)
  clear hzn hzl hzc wf0 ht
  go_enter Tryd.func3, Tryd.ntmps3
  go_wp2_with fail
  refine (HS.out _).mono ?_
  rintro e w5 ⟨u5, rfl, i5, b5⟩
  obtain ⟨a5, l5, c5, rfl⟩ : ∃ a l c, u5 = .slice a l c := by obtain ⟨a, c, e, -⟩ := i5.at.shape; exact ⟨a, _, c, e⟩
  have E5 := E4.out.trans (b5.mono E4.out.size)
  have C6 := Cpy.new zn 24 i5 b5.size
  have B6 : Below w5.heap.size w5 (w5.alloc (.cells #[.int .i64 zn, .slice a5 l5 c5] 24)) := (Below.refl _ _).alloc (Nat.le_refl _) _
  have E6 := Lib.hid (E5.trans (B6.mono E5.size))
  have s6 := World.size_alloc w5 (.cells #[.int .i64 zn, .slice a5 l5 c5] 24)
  obtain ⟨w6, hw6⟩ : ∃ W, w5.alloc (.cells #[.int .i64 zn, .slice a5 l5 c5] 24) = W := ⟨_, rfl⟩
  obtain ⟨P0, hP0⟩ : ∃ P, w5.heap.size = P := ⟨_, rfl⟩
  obtain ⟨b0, hb0⟩ : ∃ P, w.heap.size = P := ⟨_, rfl⟩
  rw [hw6, hP0, hb0] at C6
  rw [hw6] at E6
  rw [hw6, hP0] at s6
  obtain ⟨L7, hL7⟩ : ∃ P, w6.heap.size = P := ⟨_, rfl⟩
  have PL : P0 < L7 := by omega
  have wL7 : w.heap.size ≤ L7 := by rw [← hL7]; exact E6.out.size
  clear i5 b5 E5 B6 E4 s6
  go_wp2_with fail
  try rw [hw6]
  clear hw6
  refine (HI.out _ (TB.out _ E6.out)).mono ?_
  rintro e w8 ⟨u8, rfl, i8, b8⟩
  obtain ⟨a8, l8, c8, rfl⟩ : ∃ a l c, u8 = .slice a l c := by obtain ⟨a, c, e, -⟩ := i8.at.shape; exact ⟨a, _, c, e⟩
  have E8 := E6.out.trans (b8.mono E6.out.size)
  have C8 := Cpy.next C6 b8
  have D9 := Cpy.new zn 24 i8 b8.size
  have B9 : Below w8.heap.size w8 (w8.alloc (.cells #[.int .i64 zn, .slice a8 l8 c8] 24)) := (Below.refl _ _).alloc (Nat.le_refl _) _
  have E9 := Lib.hid (E8.trans (B9.mono E8.size))
  have C9 := Cpy.next C8 B9
  obtain ⟨w9, hw9⟩ : ∃ W, w8.alloc (.cells #[.int .i64 zn, .slice a8 l8 c8] 24) = W := ⟨_, rfl⟩
  obtain ⟨P1, hP1⟩ : ∃ P, w8.heap.size = P := ⟨_, rfl⟩
  have LP : L7 ≤ P1 := by rw [← hL7, ← hP1]; exact b8.size
  rw [hw9, hP1, hL7] at D9
  rw [hw9] at E9 C9
  clear i8 b8 E8 C8 B9 E6 C6
  obtain ⟨c0, c1⟩ := Cpy.cells C9
  obtain ⟨d0, d1⟩ := Cpy.cells D9
  go_wp2_with fail
  try rw [hw9]
  clear hw9
  refine (eq_Design _ zn _ _ zl (Cpy.at D9) (Cpy.at C9)).mono ?_
  rintro e wa ⟨rfl, ba⟩
  have Ea := Lib.hid (E9.out.trans (ba.mono E9.out.size))
  have Ca := Cpy.next C9 ba
  have Da := Cpy.next D9 ba
  clear ba c0 c1 d0 d1 E9 C9 D9
  obtain ⟨d0, d1⟩ := Cpy.cells Da
  go_wp2_with fail
  refine (mark_DesignR _ L7 P1 zn _ zl 1 Da.out.2.1 (by omega) (by omega)).mono ?_
  rintro e wf ⟨rfl, rf, mf⟩
  have bf : Below wa.heap.size wa (wa.alloc (.cells #[.int .i64 zn, .slice a8 l8 c8] 24)) := (Below.refl _ _).alloc (Nat.le_refl _) _
  have Ef := Lib.hid ((Ea.out.trans (bf.mono Ea.out.size)).trans (mf.below.mono (by omega)))
  have Cf := Cpy.keep (Cpy.next Ca bf) mf (.inl (by omega))
  have Df := Cpy.marked (Cpy.next Da bf) mf rf
  obtain ⟨q2, hq2⟩ : ∃ q : Int, 1 + (tot zl : Int) = q := ⟨_, rfl⟩
  rw [hq2]
  have f2 : decide (q2 < 0) = false := decide_eq_false (by omega)
  have e2 : (q2 != q2) = false := by simp
  have HQ2 := Lib.hid hq2
  clear bf mf rf hq2 d0 d1 Ea Ca Da
  obtain ⟨d0, d1⟩ := Cpy.cells Df
  go_wp2_with fail
  refine (held_Design _ zn _ zl 1 (Cpy.at Df) (by omega) (by omega)).mono ?_
  rintro e wg ⟨rfl, bg⟩
  rw [HQ2.out]
  have Eg := Lib.hid (Ef.out.trans (bg.mono Ef.out.size))
  have Cg := Cpy.next Cf bg
  have Dg := Cpy.next Df bg
  clear bg d0 d1 Ef Cf Df
  go_wp2_with fail
  refine (HI.out _ (TB.out _ Eg.out)).mono ?_
  rintro e wi ⟨ui, rfl, ii, bi⟩
  obtain ⟨ai, li, ci, rfl⟩ : ∃ a l c, ui = .slice a l c := by obtain ⟨a, c, e, -⟩ := ii.at.shape; exact ⟨a, _, c, e⟩
  have Ei := Eg.out.trans (bi.mono Eg.out.size)
  have Ci := Cpy.next Cg bi
  have Di := Cpy.next Dg bi
  have F9 := Cpy.new zn 24 ii bi.size
  have Bj : Below wi.heap.size wi (wi.alloc (.cells #[.int .i64 zn, .slice ai li ci] 24)) := (Below.refl _ _).alloc (Nat.le_refl _) _
  have Ej := Lib.hid (Ei.trans (Bj.mono Ei.size))
  have Cj := Cpy.next Ci Bj
  have Dj := Cpy.next Di Bj
  obtain ⟨wj, hwj⟩ : ∃ W, wi.alloc (.cells #[.int .i64 zn, .slice ai li ci] 24) = W := ⟨_, rfl⟩
  rw [hwj] at F9 Ej Cj Dj
  obtain ⟨P2, hP2⟩ : ∃ P, wi.heap.size = P := ⟨_, rfl⟩
  rw [hP2] at F9
  clear ii bi Ei Ci Di Bj Eg Cg Dg
  obtain ⟨c0, c1⟩ := Cpy.cells Cj
  obtain ⟨d0, d1⟩ := Cpy.cells F9
  go_wp2_with fail
  try rw [hwj]
  clear hwj
  refine (eq_Design _ zn _ _ zl (Cpy.at F9) (Cpy.at Cj)).mono ?_
  rintro e wk ⟨rfl, bk⟩
  have Ek := Lib.hid (Ej.out.trans (bk.mono Ej.out.size))
  have Dk := Cpy.next Dj bk
  clear bk c0 c1 d0 d1 Ej Cj Dj F9
  obtain ⟨d0, d1⟩ := Cpy.cells Dk
  go_wp2_with fail
  refine (held_Design _ zn _ zl 1 (Cpy.at Dk) (by omega) (by omega)).mono ?_
  rintro e wl ⟨rfl, bl⟩
  rw [HQ2.out]
  have El := Lib.hid (Ek.out.trans (bl.mono Ek.out.size))
  clear bl d0 d1 Ek Dk
  go_wp2
  go_ret
  exact ⟨rfl, El.out⟩
end Go.Proofs.YtanfodbpgpfjmaaDoor
