/- The size of a field, by the program. -/
import Derived.Test.YtmlcdbjibngnkaaEi
namespace Go.Proofs.Ytmlcdbjibngnkaa
open Go.RowKit
set_option linter.unusedVariables false

theorem iFieldSize (P K : Int) (xs : List Int) (v : Value) (w : World) (hv : IntsAt w v xs) :
    Calls Try.prog 40 #[.agg #[.int .i64 P, .int .i64 K, v]] w fun e w' => e = .returned (.int .i64 (aSize P K xs)) ∧ Below w.heap.size w w' := by
  have B1 : Hid (Below w.heap.size w (w.alloc (.cells #[.int .i64 P, .int .i64 K, v] 25))) := (Below.refl _ _).alloc (Nat.le_refl _) _
  obtain ⟨c, hc, hs, h1, hcv⟩ := ffAns_shape P K xs
  have HS := Lib.hid (ffOf P K xs v (w.alloc (.cells #[.int .i64 P, .int .i64 K, v] 25)) (hv.below B1.out (Nat.le_refl _)))
  rw [hc] at HS
  have hst := fun W : World => Try.storesFf W c hs h1
  obtain ⟨a, n, cap, rfl⟩ := fld_slice hv
  clear hv hc h1
  by_cases hk : fok P K xs = true
  · rw [hk] at HS
    have E : Hid (aSize P K xs = fsz P K) := by unfold Hid aSize; rw [if_pos hk]
    have FN : Hid (∀ W : World, (W.alloc (.cells c 57)).cell? ⟨W.heap.size, 2, none⟩ = some (.int .i64 (fsz P K))) := fun W => by rw [hcv hk]; exact (Ff.new _ _ _ _ _).cells.2.2
    clear hcv hk
    go_enter Try.func40, Try.ntmps40
    go_upto_region 2 with (go_at_call 59; refine HS.out.mono ?_; rintro e w2 ⟨rfl, b2⟩; have B2 := Lib.hid (B1.out.trans (b2.mono B1.out.size)); clear b2)
    have B3 : Hid (Below w.heap.size w (w2.alloc (.cells c 57))) := B2.out.alloc B2.out.size _
    have cs := FN.out w2
    go_wp2
    go_ret
    exact ⟨ret_i _ _ E.out.symm, B3.out⟩
  · have E : Hid (aSize P K xs = -1) := by unfold Hid aSize; rw [if_neg hk]
    rw [Bool.not_eq_true] at hk
    rw [hk] at HS
    clear hk hcv
    go_enter Try.func40, Try.ntmps40
    go_upto_region 2 with (go_at_call 59; refine HS.out.mono ?_; rintro e w2 ⟨rfl, b2⟩; have B2 := Lib.hid (B1.out.trans (b2.mono B1.out.size)); clear b2)
    have B3 : Hid (Below w.heap.size w (w2.alloc (.cells c 57))) := B2.out.alloc B2.out.size _
    go_wp2
    go_ret
    exact ⟨ret_i _ _ E.out.symm, B3.out⟩
end Go.Proofs.Ytmlcdbjibngnkaa
