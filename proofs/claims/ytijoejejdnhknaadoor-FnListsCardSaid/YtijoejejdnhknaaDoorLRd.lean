/- ReadDecimal: the law. -/
import Derived.Test.YtijoejejdnhknaaDoorRs
namespace Go.Proofs.YtijoejejdnhknaaDoor
open Go.RowKit Go.ChangeShapes Go.WideShapes
set_option linter.unusedVariables false

theorem gSyn : Tryd.prog.globalNamed "strconv.ErrSyntax" = some 1 := by kernel_rfl
theorem gRng : Tryd.prog.globalNamed "strconv.ErrRange" = some 2 := by kernel_rfl
theorem tSyn : (Tryd.prog.globals[1]?).map (·.type) = some 49 := by kernel_rfl
theorem tRng : (Tryd.prog.globals[2]?).map (·.type) = some 49 := by kernel_rfl
/-- A variable of errors that is laid holds an error. -/
theorem err_of {n nm : String} {d : DataW Unit} {r : List (String × DataW Unit)} {W : World} {g : Nat} (hg : Tryd.prog.globalNamed n = some g) (ht : (Tryd.prog.globals[g]?).map (·.type) = some 49) (h : laidMet Tryd.prog ((n, .iface nm d) :: r) W) :
    ∃ u v, W.cell? ⟨g, 0, none⟩ = some (.iface u v) := by
  obtain ⟨ps, ⟨g0, t0, cs0, f0, p0, q0, hg0, ht0, hv0, hd0, _, _⟩, _, _⟩ := h
  obtain rfl := Option.some.inj (hg.symm.trans hg0)
  obtain rfl := Option.some.inj (ht.symm.trans ht0)
  obtain ⟨f1, u, v, e, _, _⟩ := iface_of_trod Tryd.underlying49 hd0
  refine ⟨u, v, ?_⟩
  have := World.var?_cell hg0 hv0 0
  rw [this, ← Array.getElem?_toList, e]
  rfl

def laidLB : List (String × DataW Unit) := [("math/bits.deBruijn32tab", Rows.laid_math_bits_deBruijn32tab), ("math/bits.deBruijn64tab", Rows.laid_math_bits_deBruijn64tab), ("internal/strconv.uint64pow10", Rows.laid_internal_strconv_uint64pow10), ("strconv.ErrRange", Rows.laid_strconv_ErrRange), ("strconv.ErrSyntax", Rows.laid_strconv_ErrSyntax)]
theorem tab_of_laidB {W : World} (h : laidMetH Tryd.prog laidLB W) : Laid5 W := by
  rw [MakeChecks.laidMetH_plain _ _ _ (by kernel_rfl)] at h
  exact ⟨pow_of h, err_of gSyn tSyn (laidMet.tail (laidMet.tail (laidMet.tail (laidMet.tail h)))), err_of gRng tRng (laidMet.tail (laidMet.tail (laidMet.tail h)))⟩
theorem door_metB (os : Os) (args : Array Value) : laidMetH Tryd.prog laidLB ((World.doorLaid Tryd.prog 4000 os).forCall (fun _ _ => 0) ⟨#[], args, []⟩).memory :=
  laidMetH_of_parts3 (fuel := 10) (laidMet_of_run' 10 (by kernel_rfl) (by kernel_rfl)) (by kernel_rfl) (by kernel_rfl)

theorem sRead (s : ByteArray) (w : World) (hs : s.size ≤ 1048576) :
    Calls Tryd.prog 17 #[.string s] w fun e w' => e = .returned (.tuple #[.int .i64 (rdA s), .bool (rdB s)]) ∧ Below w.heap.size w w' := by
  have H := Lib.hid (snum s w hs)
  obtain ⟨a, ha⟩ : ∃ a, rdA s = a := ⟨_, rfl⟩
  obtain ⟨b, hb⟩ : ∃ b, rdB s = b := ⟨_, rfl⟩
  rw [ha, hb] at H
  rw [ha, hb]
  go_enter Tryd.func17, Tryd.ntmps17
  go_wp2_with (go_at_call 35; refine H.out.mono ?_; rintro e w1 ⟨rfl, b1⟩; have B1 := Lib.hid b1; clear b1)
  go_ret2
  exact ⟨rfl, B1.out⟩

theorem law_FnExactReadDecimal (s : ByteArray) (w : World) (_ : s.size ≤ maxLen) (ht : Laid5 w) :
    Calls Tryd.prog 5 #[.string s] w fun r w' => r = .returned (.bool true) ∧ Below w.heap.size w w' := by
  by_cases hbig : 1048576 < s.size
  · have hb : (1048576 : Int) < (s.size : Int) := by omega
    go_enter Tryd.func5, Tryd.ntmps5
    go_wp2
    go_ret
    exact ⟨rfl, Below.refl _ _⟩
  have hb : decide ((1048576 : Int) < (s.size : Int)) = false := by simp; omega
  have hs : s.size ≤ 1048576 := by omega
  have HS := Lib.hid (fun W => sRead s W hs)
  have HI := Lib.hid (fun W h => iread s W hs h)
  have T := Lib.hid ht
  obtain ⟨a, ha⟩ : ∃ a, rdA s = a := ⟨_, rfl⟩
  obtain ⟨b, hb'⟩ : ∃ b, rdB s = b := ⟨_, rfl⟩
  simp only [ha, hb'] at HS HI
  have t1 : (a != a) = false := by simp
  have t2 : (b != b) = false := by simp
  clear ha hb' ht hbig
  go_enter Tryd.func5, Tryd.ntmps5
  go_wp2_with fail
  refine (HS.out _).mono ?_
  rintro e w1 ⟨rfl, b1⟩
  have B1 := Lib.hid b1
  clear b1
  go_wp2_with fail
  refine (HI.out _ (T.out.below B1.out T.out.pos)).mono ?_
  rintro e w2 ⟨rfl, b2⟩
  have B2 := Lib.hid (B1.out.trans (b2.mono B1.out.size))
  clear b2
  go_wp2
  go_ret
  exact ⟨rfl, B2.out⟩
end Go.Proofs.YtijoejejdnhknaaDoor
