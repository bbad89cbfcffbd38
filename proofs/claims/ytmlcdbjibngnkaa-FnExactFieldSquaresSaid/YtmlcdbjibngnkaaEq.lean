/- Products of elements, by the program: FieldMul. -/
import Derived.Test.YtmlcdbjibngnkaaEp
namespace Go.Proofs.Ytmlcdbjibngnkaa
open Go.RowKit
set_option linter.unusedVariables false

theorem iFieldMul (P K x0 x1 : Int) (xs : List Int) (v : Value) (w : World) (hv : IntsAt w v xs) :
    Calls Try.prog 44 #[.agg #[.int .i64 P, .int .i64 K, v], .int .i64 x0, .int .i64 x1] w fun e w' => e = .returned (.int .i64 (aMul P K x0 x1 xs)) ∧ Below w.heap.size w w' := by
  have B1 : Hid (Below w.heap.size w (w.alloc (.cells #[.int .i64 P, .int .i64 K, v] 25))) := (Below.refl _ _).alloc (Nat.le_refl _) _
  have HC := Lib.hid (comb P K x0 x1 xs v (w.alloc (.cells #[.int .i64 P, .int .i64 K, v] 25)) (hv.below B1.out (Nat.le_refl _)) 61 (aMul P K x0 x1 xs) Try.f61 Try.func61 (by kernel_rfl) (by kernel_rfl) (fun hk W => by
    obtain ⟨p, k, x, y, rfl, rfl, rfl, rfl, h, hx, hy⟩ := has_int hk
    have hb := h.bd
    have := imul p k (fsz p k) (cofs xs) x y W hb.1 hb.2.1 h.2.1 hb.2.2 h.2.2.1 h.rd h.2.2.2.2.1 hx hy
    unfold aMul
    rw [if_pos hk]
    simpa only [Int.toNat_natCast] using this))
  have E : Hid ((if hasB P K xs x0 x1 = true then aMul P K x0 x1 xs else -1) = aMul P K x0 x1 xs) := by
    unfold Hid aMul
    split <;> rfl
  rw [E.out] at HC
  obtain ⟨a, n, cap, rfl⟩ := fld_slice hv
  clear hv
  go_enter Try.func44, Try.ntmps44
  go_wp2_with (go_at_call 75; refine HC.out.mono ?_; rintro e w2 ⟨rfl, b2⟩; have B2 := Lib.hid (B1.out.trans (b2.mono B1.out.size)))
  go_ret
  exact ⟨rfl, B2.out⟩

end Go.Proofs.Ytmlcdbjibngnkaa
