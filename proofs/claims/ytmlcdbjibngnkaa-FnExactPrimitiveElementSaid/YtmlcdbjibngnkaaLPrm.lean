/- PrimitiveElement: the law. -/
import Derived.Test.YtmlcdbjibngnkaaEy
namespace Go.Proofs.Ytmlcdbjibngnkaa
open Go.RowKit
set_option linter.unusedVariables false

set_option maxHeartbeats 1000000 in
theorem law_FnExactPrimitiveElement (P K : Int) (a : Option Addr) (len cap : Nat) (zs : List Int) (w : World) (hrow : IsRow .i64 w a len cap zs) :
    Calls Try.prog 14 #[.agg #[.int .i64 P, .int .i64 K, .slice a len cap]] w fun e w' => e = .returned (.bool true) ∧ Below w.heap.size w w' := by
  obtain ⟨hv, hl⟩ := hrow.at
  obtain ⟨xs, hxs⟩ : ∃ xs, zs.take len = xs := ⟨_, rfl⟩
  rw [hxs] at hv hl
  clear hxs hrow
  have S1 := St.start (P := P) (K := K) hv
  have hmax : len ≤ 9223372036854775807 := by have := hv.1; omega
  have HZ := Lib.hid (fun W : World => szField_any P K a len cap W hmax)
  clear hv
  by_cases hlen : len ≤ 1048576
  · have g1 : ¬ (1048576 : Int) - (len : Int) < 0 := by omega
    rw [if_pos hlen] at HZ
    have HTo := Lib.hid (fun (W : World) (h : St w P K (.slice a len cap) xs W) => toField_any P K xs (.slice a len cap) W h.2.1 (by omega))
    have HS := Lib.hid (fun (u : Value) (W : World) (h : IntsAt W u xs) => sPrimitiveElement P K  xs u W h)
    have HI := Lib.hid (fun (u : Value) (W : World) (h : IntsAt W u xs) => iPrimitiveElement P K  xs u W h)
    obtain ⟨r, hr⟩ : ∃ r, (aPrm P K xs) = r := ⟨_, rfl⟩
    rw [hr] at HS HI
    clear hr
    have rT : (r != r) = false := by simp
    go_enter Try.func14, Try.ntmps14
    go_upto_region 5 with (go_at_call 33; refine (HZ.out _).mono ?_; rintro e w2 ⟨rfl, b2⟩; have S2 := St.next S1 b2; obtain ⟨c0, c1, c2⟩ := S2.out.1.cells; clear b2)
    go_upto_region 6 with (first | (go_at_call 35; refine (HTo.out _ S2.out).mono ?_; rintro e w3 ⟨v3, rfl, i3, b3⟩; have S3 := St.next S2 b3; have I3 := Lib.hid i3.at; clear i3 b3) | (go_at_call 49; refine (HS.out _ _ I3.out).mono ?_; rintro e w4 ⟨rfl, b4⟩; have S4 := St.next S3 b4; obtain ⟨d0, d1, d2⟩ := S4.out.1.cells; clear b4))
    go_upto_region 7 with (go_at_call 35; refine (HTo.out _ S4.out).mono ?_; rintro e w5 ⟨v5, rfl, i5, b5⟩; have S5 := St.next S4 b5; obtain ⟨a5, n5, cap5, rfl⟩ := i5.isSlice; have I5 := Lib.hid i5.at; clear i5 b5)
    have O6 : Hid (Own w5.heap.size P K (.slice a5 n5 cap5) xs (w5.alloc (.cells #[.int .i64 P, .int .i64 K, .slice a5 n5 cap5] 25))) := ⟨Fd.new _ _ _ _, I5.out.below ((Below.refl _ _).alloc (Nat.le_refl _) _) (Nat.le_refl _)⟩
    have S6 := St.alloc S5 (.cells #[.int .i64 P, .int .i64 K, .slice a5 n5 cap5] 25)
    obtain ⟨g, hg⟩ : ∃ g, w5.heap.size = g := ⟨_, rfl⟩
    obtain ⟨w6, hw6⟩ : ∃ w6, w5.alloc (.cells #[.int .i64 P, .int .i64 K, .slice a5 n5 cap5] 25) = w6 := ⟨_, rfl⟩
    rw [hw6] at O6 S6 ⊢
    rw [hg] at O6 ⊢
    clear hw6 hg S5 I5
    obtain ⟨f0, f1, f2⟩ := O6.out.1.cells
    go_upto_region 10 with (go_at_call 21; refine (HI.out _ _ O6.out.2).mono ?_; rintro e w7 ⟨rfl, b7⟩; have H7 := held_both ⟨S6.out, O6.out⟩ b7; clear b7)
    have H7d := held_drew H7
    have HEq := Lib.hid (fun (u : Value) (W : World) (h1 : IntsAt W (.slice a5 n5 cap5) xs) (h2 : IntsAt W u xs) => eqField_same P K xs (.slice a5 n5 cap5) u W h1 h2)
    clear d0 d1 d2 f0 f1 f2 c0 c1 c2 O6 S6
    go_region_held3 (fun w' => w'.cell? ⟨w.heap.size, 0, none⟩ = some (.int .i64 P) ∧ w'.cell? ⟨w.heap.size, 1, none⟩ = some (.int .i64 K) ∧ w'.cell? ⟨w.heap.size, 2, none⟩ = some (.slice a len cap) ∧ w'.cell? ⟨g, 0, none⟩ = some (.int .i64 P) ∧ w'.cell? ⟨g, 1, none⟩ = some (.int .i64 K) ∧ w'.cell? ⟨g, 2, none⟩ = some (.slice a5 n5 cap5) ∧ Hid (St w P K (.slice a len cap) xs w' ∧ Own g P K (.slice a5 n5 cap5) xs w')) (first | exact held6 (by assumption))
      (first | (go_at_call 35; refine (HTo.out _ (And.left (Hid.out (by assumption)))).mono ?_; rintro e w8 ⟨v8, rfl, i8, b8⟩; have H8 := held_both (by assumption) b8; have I8 := Lib.hid i8.at) | (go_at_call 37; refine (HEq.out _ _ H8.out.2.2 I8.out).mono ?_; rintro e w9 ⟨rfl, b9⟩; have H9 := held_both H8 b9))
    go_wp2
    go_ret
    exact ⟨rfl, H9.out.1.2.2⟩
  · rw [if_neg hlen] at HZ
    go_enter Try.func14, Try.ntmps14
    go_wp2_with (go_at_call 33; refine (HZ.out _).mono ?_; rintro e w2 ⟨rfl, b2⟩; have S2 := St.next S1 b2; clear b2)
    go_ret
    exact ⟨rfl, S2.out.2.2⟩
end Go.Proofs.Ytmlcdbjibngnkaa
