/- ReadList: the law. -/
import Derived.Test.YtijoejejdnhknaaDoorRl
import Derived.Test.YtijoejejdnhknaaDoorLRd
import Derived.Test.YtijoejejdnhknaaDoorSep
import Derived.Test.YtijoejejdnhknaaDoorHand
import Derived.Shelf.Vars
namespace Go.Proofs.YtijoejejdnhknaaDoor
open Go.RowKit Go.ChangeShapes Go.WideShapes
set_option linter.unusedVariables false

def laidLC : List (String × DataW Unit) := [("math/bits.deBruijn32tab", Rows.laid_math_bits_deBruijn32tab), ("math/bits.deBruijn64tab", Rows.laid_math_bits_deBruijn64tab), ("internal/strconv.uint64pow10", Rows.laid_internal_strconv_uint64pow10), ("unicode/utf8.acceptRanges", Rows.laid_unicode_utf8_acceptRanges), ("strconv.ErrRange", Rows.laid_strconv_ErrRange), ("strconv.ErrSyntax", Rows.laid_strconv_ErrSyntax), ("unicode/utf8.first", Rows.laid_unicode_utf8_first)]
theorem maxLen_of {W : World} (h : W.ShapedOpen Tryd.prog) : ∃ m, W.cell? ⟨0, 0, none⟩ = some (.int .i64 m) :=
  cell_of_shapedOpen_int h (by decide +kernel) (zero := #[.int .i64 0]) (t := 3) (by kernel_rfl) rfl (by kernel_rfl) (by kernel_rfl) Tryd.underlying3
theorem tab_of_laidC {W : World} (h : laidMetH Tryd.prog laidLC W) (sh : W.ShapedOpen Tryd.prog) : Laid6 W := by
  rw [MakeChecks.laidMetH_plain _ _ _ (by kernel_rfl)] at h
  exact ⟨⟨pow_of h, err_of gSyn tSyn (laidMet.tail (laidMet.tail (laidMet.tail (laidMet.tail (laidMet.tail h))))), err_of gRng tRng (laidMet.tail (laidMet.tail (laidMet.tail (laidMet.tail h))))⟩, maxLen_of sh⟩
set_option maxHeartbeats 2000000 in
theorem law_FnExactReadList (s : ByteArray) (w : World) (_ : s.size ≤ maxLen) (ht : Laid6 w) :
    Calls Tryd.prog 7 #[.string s] w fun r w' => r = .returned (.bool true) ∧ Below w.heap.size w w' := by
  by_cases hbig : 1048576 < s.size
  · have hb : (1048576 : Int) < (s.size : Int) := by omega
    go_enter Tryd.func7, Tryd.ntmps7
    go_wp2
    go_ret
    exact ⟨rfl, Below.refl _ _⟩
  have hb : decide ((1048576 : Int) < (s.size : Int)) = false := by simp; omega
  have hs : s.size ≤ 1048576 := by omega
  have HS := Lib.hid (fun W => srl s W hs)
  have HI := Lib.hid (fun W h => irl s W hs h)
  have HT := Lib.hid ht
  have wl : (rlA s).length ≤ 100 := by
    unfold rlA
    split
    · simp
    · split
      · simp
      · split
        · rw [List.length_map]; omega
        · simp
  obtain ⟨ws, hws⟩ : ∃ ws, rlA s = ws := ⟨_, rfl⟩
  obtain ⟨bb, hbb⟩ : ∃ bb, rlB s = bb := ⟨_, rfl⟩
  simp only [hws, hbb] at HS HI wl
  have tb : (bb != bb) = false := by simp
  clear hws hbb hbig ht
  go_enter Tryd.func7, Tryd.ntmps7
  go_wp2_with fail
  refine (HS.out _).mono ?_
  rintro r w1 ⟨v1, rfl, i1, b1⟩
  have I1 := Lib.hid i1
  have T1 := Lib.hid b1
  clear i1 b1
  go_wp2_with fail
  refine (HI.out _ (HT.out.below T1.out HT.out)).mono ?_
  rintro r w2 ⟨v2, rfl, i2, b2⟩
  have I2 := Lib.hid i2
  have I12 := Lib.hid (I1.out.below b2 (Nat.le_refl _))
  have s2 := b2.size
  have T2 := Lib.hid (t_step T1.out b2)
  clear i2 b2
  go_wp2_with fail
  refine (eq_same _ _ _ ws I2.out.at I12.out.at).mono ?_
  rintro r w3 ⟨rfl, k3, rfl⟩
  go_wp2_with fail
  refine (mark_own _ _ v2 ws 1 (I2.out.drewN k3) (by omega) (by omega)).mono ?_
  rintro r w4 ⟨rfl, j4, g4, z4⟩
  have J4 := Lib.hid j4
  have I14 := Lib.hid (Ints.grown (I12.out.drewN k3) g4 (by
    cases e : v1.ownBlock with
    | none => exact .inl rfl
    | some k =>
      right
      intro e'
      have a1 := (World.ownsRow.lt I1.out k e).2
      have a2 := (World.ownsRow.lt I2.out k e'.symm).1
      omega))
  have b4 := (Below.refl w1.heap.size (w2.drewN k3)).grown g4 s2 (fun k hk => (World.ownsRow.lt I2.out k hk).1)
  have T4 := Lib.hid ((Go.below_drewN T2.out k3).trans (b4.mono T1.out.size))
  obtain ⟨q, hq⟩ : ∃ q : Int, 1 + (ws.length : Int) = q := ⟨_, rfl⟩
  rw [hq]
  have t5 : decide (q < 0) = false := by simp; omega
  have tq : (q != q) = false := by simp
  have HQ := Lib.hid hq
  clear j4 g4 b4 hq z4
  go_wp2_with fail
  refine (held_marks _ v2 1 ws.length J4.out.at (by omega) (by omega)).mono ?_
  rintro r w5 ⟨rfl, rfl⟩
  rw [HQ.out]
  go_wp2_with fail
  refine (HI.out _ (HT.out.below T4.out HT.out)).mono ?_
  rintro r w6 ⟨v6, rfl, i6, b6⟩
  have I6 := Lib.hid i6
  have J6 := Lib.hid (J4.out.below b6 (Nat.le_refl _))
  have I16 := Lib.hid (I14.out.below b6 (Nat.le_refl _))
  have T6 := Lib.hid (t_step T4.out b6)
  clear i6 b6
  go_wp2_with fail
  refine (eq_same _ _ _ ws I6.out.at I16.out.at).mono ?_
  rintro r w7 ⟨rfl, k7, rfl⟩
  go_wp2_with fail
  refine (held_marks _ v2 1 ws.length (J6.out.drewN k7).at (by omega) (by omega)).mono ?_
  rintro r w8 ⟨rfl, rfl⟩
  rw [HQ.out]
  go_wp2
  go_ret
  exact ⟨rfl, Go.below_drewN T6.out k7⟩
end Go.Proofs.YtijoejejdnhknaaDoor
