/- FieldSquares: the law. -/
import Derived.Test.YtmlcdbjibngnkaaSqf
import Derived.Test.YtmlcdbjibngnkaaLLog
namespace Go.Proofs.Ytmlcdbjibngnkaa
open Go.RowKit
set_option linter.unusedVariables false

set_option maxHeartbeats 2000000 in
theorem law_FnExactFieldSquares (P K : Int) (a : Option Addr) (len cap : Nat) (zs : List Int) (w : World) (hrow : IsRow .i64 w a len cap zs) :
    Calls Try.prog 17 #[.agg #[.int .i64 P, .int .i64 K, .slice a len cap]] w fun e w' => e = .returned (.bool true) ∧ Below w.heap.size w w' := by
  obtain ⟨hv, hl⟩ := hrow.at
  obtain ⟨xs, hxs⟩ : ∃ xs, zs.take len = xs := ⟨_, rfl⟩
  rw [hxs] at hv hl
  clear hxs hrow
  have S1 := St.start (P := P) (K := K) hv
  have hmax : len ≤ 9223372036854775807 := by have := hv.1; omega
  have HZ := Lib.hid (fun W : World => szField_any P K a len cap W hmax)
  clear hv
  by_cases hlen : len ≤ 1048576
  · have g1 : ¬ (1048576 : Int) - (len : Int) < 0 := by omega
    rw [if_pos hlen] at HZ
    have HTo := Lib.hid (fun (W : World) (h : St w P K (.slice a len cap) xs W) => toField_any P K xs (.slice a len cap) W h.2.1 (by omega))
    have HS := Lib.hid (fun (u : Value) (W : World) (h : IntsAt W u xs) => sFieldSquares P K xs u W h)
    have HI := Lib.hid (fun (u : Value) (W : World) (h : IntsAt W u xs) => iFieldSquares P K xs u W h)
    have rl := sqT_len P K xs
    obtain ⟨r, hr⟩ : ∃ r, sqT P K xs = r := ⟨_, rfl⟩
    rw [hr] at HS HI rl
    clear hr
    have hl2 : xs.length ≤ 1048576 := by omega
    go_enter Try.func17, Try.ntmps17
    go_upto_region 5 with (go_at_call 33; refine (HZ.out _).mono ?_; rintro e w2 ⟨rfl, b2⟩; have S2 := St.next S1 b2; obtain ⟨c0, c1, c2⟩ := S2.out.1.cells; clear b2)
    go_upto_region 6 with (first | (go_at_call 35; refine (HTo.out _ S2.out).mono ?_; rintro e w3 ⟨v3, rfl, i3, b3⟩; have S3 := St.next S2 b3; have I3 := Lib.hid i3.at; clear i3 b3) | (go_at_call 53; refine (HS.out _ _ I3.out).mono ?_; rintro e w4 ⟨v4, rfl, i4, b4⟩; have S4 := St.next S3 b4; have I4 := Lib.hid i4; obtain ⟨d0, d1, d2⟩ := S4.out.1.cells; clear b4 i4))
    go_upto_region 7 with (go_at_call 35; refine (HTo.out _ S4.out).mono ?_; rintro e w5 ⟨v5, rfl, i5, b5⟩; have S5 := St.next S4 b5; have J5 := Lib.hid (I4.out.below b5 (Nat.le_refl _)); obtain ⟨a5, n5, cap5, rfl⟩ := i5.isSlice; have I5 := Lib.hid i5; have K5 := Lib.hid b5; clear i5 b5)
    have hb6 : Below w5.heap.size w5 (w5.alloc (.cells #[.int .i64 P, .int .i64 K, .slice a5 n5 cap5] 25)) := (Below.refl _ _).alloc (Nat.le_refl _) _
    have O6 : Hid (Own w5.heap.size P K (.slice a5 n5 cap5) xs (w5.alloc (.cells #[.int .i64 P, .int .i64 K, .slice a5 n5 cap5] 25))) := ⟨Fd.new _ _ _ _, I5.out.at.below hb6 (Nat.le_refl _)⟩
    have U6 := Lib.hid (I5.out.below hb6 (Nat.le_refl _))
    have J6 := Lib.hid (J5.out.below hb6 (Nat.le_refl _))
    have K6 : Hid (Below w4.heap.size w4 (w5.alloc (.cells #[.int .i64 P, .int .i64 K, .slice a5 n5 cap5] 25))) := K5.out.alloc K5.out.size _
    have S6 := St.alloc S5 (.cells #[.int .i64 P, .int .i64 K, .slice a5 n5 cap5] 25)
    obtain ⟨g, hg⟩ : ∃ g, w5.heap.size = g := ⟨_, rfl⟩
    obtain ⟨w6, hw6⟩ : ∃ w6, w5.alloc (.cells #[.int .i64 P, .int .i64 K, .slice a5 n5 cap5] 25) = w6 := ⟨_, rfl⟩
    rw [hw6] at O6 S6 U6 J6 K6 ⊢
    rw [hg] at O6 ⊢
    clear hw6 hg S5 I5 J5 hb6
    obtain ⟨f0, f1, f2⟩ := O6.out.1.cells
    go_upto_region 8 with (go_at_call 27; refine (HI.out _ _ O6.out.2).mono ?_; rintro e w7 ⟨v7, rfl, i7, b7⟩; have H7 := held_both ⟨S6.out, O6.out⟩ b7; have I7 := Lib.hid i7; have U7 := Lib.hid (U6.out.below b7 (Nat.le_refl _)); have J7 := Lib.hid (J6.out.below b7 (Nat.le_refl _)); have KB : Hid (Below w4.heap.size w4 w7) := K6.out.trans (b7.mono K6.out.size); have KS : Hid (w4.heap.size ≤ w6.heap.size) := K6.out.size; clear b7 i7)
    go_upto_region 10 with (go_at_call 30; refine (eq_same _ _ _ r I7.out.at J7.out.at).mono ?_; rintro e w8 ⟨rfl, n8, rfl⟩)
    have T8 : Hid ((St w P K (.slice a len cap) xs (w7.drewN n8).drew ∧ Own g P K (.slice a5 n5 cap5) xs (w7.drewN n8).drew) ∧ Below w7.heap.size w7 (w7.drewN n8).drew) := ⟨(held_drew (held_both H7 (belowN (Below.refl _ _) n8))).out, (belowN (Below.refl _ _) n8).drew⟩
    have HEq := Lib.hid (fun (u : Value) (W : World) (h1 : IntsAt W (.slice a5 n5 cap5) xs) (h2 : IntsAt W u xs) => eqField_same P K xs (.slice a5 n5 cap5) u W h1 h2)
    have K7 : Hid (Below w4.heap.size w4 w7) := KB.out
    clear d0 d1 d2 f0 f1 f2 c0 c1 c2 O6 S6
    go_region_held3 (fun w' => w'.cell? ⟨w.heap.size, 0, none⟩ = some (.int .i64 P) ∧ w'.cell? ⟨w.heap.size, 1, none⟩ = some (.int .i64 K) ∧ w'.cell? ⟨w.heap.size, 2, none⟩ = some (.slice a len cap) ∧ w'.cell? ⟨g, 0, none⟩ = some (.int .i64 P) ∧ w'.cell? ⟨g, 1, none⟩ = some (.int .i64 K) ∧ w'.cell? ⟨g, 2, none⟩ = some (.slice a5 n5 cap5) ∧ Hid ((St w P K (.slice a len cap) xs w' ∧ Own g P K (.slice a5 n5 cap5) xs w') ∧ Below w7.heap.size w7 w')) (first | exact held7 (by assumption))
      (first | (go_at_call 35; refine (HTo.out _ (And.left (And.left (Hid.out (by assumption))))).mono ?_; rintro e w8 ⟨v8, rfl, i8, b8⟩; have H8 := held_both7 T8 b8; have I8 := Lib.hid i8.at) | (go_at_call 37; refine (HEq.out _ _ H8.out.1.2.2 I8.out).mono ?_; rintro e w9 ⟨rfl, b9⟩; have H9 := held_both7 H8 b9))
    clear T8 H8 I8
    have B9 := Lib.hid H9.out.2
    have I9 : Hid (Ints w9 w6.heap.size v7 r) := I7.out.below B9.out (Nat.le_refl _)
    have U9 : Hid (Ints w9 w4.heap.size (.slice a5 n5 cap5) xs) := U7.out.below B9.out (Nat.le_refl _)
    have J9 : Hid (Ints w9 w3.heap.size v4 r) := J7.out.below B9.out (Nat.le_refl _)
    have K9 : Hid (Below w4.heap.size w4 w9) := K7.out.trans (B9.out.mono K7.out.size)
    have C9 := Lib.hid H9.out.1.2
    have HMk := Lib.hid (markField_own P K xs (.slice a5 n5 cap5) w9 w4.heap.size 1 U9.out (by omega) (by omega))
    clear H9 H7
    obtain ⟨f0, f1, f2⟩ := C9.out.1.cells
    go_upto_region 14 with (go_at_call 51; refine HMk.out.mono ?_; rintro e w10 ⟨rfl, o10, g10⟩; have G10 := Lib.hid g10; clear g10)
    clear f0 f1 f2 C9
    have ho : Below w9.heap.size w9 (w9.alloc o10) := (Below.refl _ _).alloc (Nat.le_refl _) _
    have I10 : Hid (Ints w10 w6.heap.size v7 r) := Ints.mark_younger (I9.out.below ho (Nat.le_refl _)) U6.out (Nat.le_refl _) G10.out
    have J10 : Hid (Ints w10 w3.heap.size v4 r) := Ints.mark_other (J9.out.below ho (Nat.le_refl _)) U6.out trivial I4.out (Nat.le_refl _) G10.out
    have K10 : Hid (Below w4.heap.size w4 w10) := (K9.out.alloc K9.out.size _).grown G10.out (by rw [World.size_alloc]; have := K9.out.size; omega) (fun k hk => (World.ownsRow.lt U6.out k hk).1)
    clear I9 U9 J9 K9 HMk ho G10
    have p1 : (0 : Int) ≤ (xs.length : Int) := by omega
    go_upto_region 16 with (go_at_call 30; refine (eq_same _ _ _ r I10.out.at J10.out.at).mono ?_; rintro e w11 ⟨rfl, n11, rfl⟩)
    have I11 : Hid (Ints (w10.drewN n11) w6.heap.size v7 r) := I10.out.drewN n11
    have J11 : Hid (Ints (w10.drewN n11) w3.heap.size v4 r) := J10.out.drewN n11
    have K11 : Hid (Below w4.heap.size w4 (w10.drewN n11)) := belowN K10.out n11
    obtain ⟨w11, hw11⟩ : ∃ w11, w10.drewN n11 = w11 := ⟨_, rfl⟩
    rw [hw11] at I11 J11 K11 ⊢
    clear hw11 I10 J10 K10
    have HM := Lib.hid (mark_own w11 w6.heap.size v7 r 1 I11.out (by omega) (by omega))
    go_upto_region 19 with (go_at_call 31; refine HM.out.mono ?_; rintro e w12 ⟨rfl, m12, g12, -⟩; have M12 := Lib.hid m12; have G12 := Lib.hid g12; clear m12 g12)
    have J12 : Hid (Ints w12 w3.heap.size v4 r) := Ints.mark_other J11.out I7.out trivial J6.out (Nat.le_refl _) G12.out
    have K12 : Hid (Below w4.heap.size w4 w12) := K11.out.grown G12.out K11.out.size (fun k hk => Nat.le_trans KS.out (World.ownsRow.lt I7.out k hk).1)
    have S12 := St.next S4 K12.out
    clear J11 I11 K11 HM G12
    have HH := Lib.hid (fun (W : World) (h : Ints W w6.heap.size v7 (marks 1 r.length)) => held_marks W v7 1 r.length h.at (by omega) (by omega))
    obtain ⟨d0, d1, d2⟩ := S12.out.1.cells
    go_upto_region 24 with (go_at_call 32; refine (HH.out _ M12.out).mono ?_; rintro e w13 ⟨rfl, rfl⟩)
    go_upto_region 25 with (first | (go_at_call 35; refine (HTo.out _ S12.out).mono ?_; rintro e w14 ⟨v14, rfl, i14, b14⟩; have I14 := Lib.hid i14.at; have M14 := Lib.hid (M12.out.below b14 (Nat.le_refl _)); have J14 := Lib.hid (J12.out.below b14 (Nat.le_refl _)); have K14 : Hid (Below w4.heap.size w4 w14) := K12.out.trans (b14.mono K12.out.size); clear b14 i14) | (go_at_call 27; refine (HI.out _ _ I14.out).mono ?_; rintro e w15 ⟨v15, rfl, i15, b15⟩; have I15 := Lib.hid i15; have M15 := Lib.hid (M14.out.below b15 (Nat.le_refl _)); have J15 := Lib.hid (J14.out.below b15 (Nat.le_refl _)); have K15 : Hid (Below w4.heap.size w4 w15) := K14.out.trans (b15.mono K14.out.size); clear b15 i15))
    go_upto_region 27 with (go_at_call 30; refine (eq_same _ _ _ r I15.out.at J15.out.at).mono ?_; rintro e w16 ⟨rfl, n16, rfl⟩)
    have M16 : Hid (Ints (w15.drewN n16) w6.heap.size v7 (marks 1 r.length)) := M15.out.drewN n16
    have K16 : Hid (Below w.heap.size w (w15.drewN n16)) := belowN ((S4.out.2.2).trans (K15.out.mono S4.out.2.2.size)) n16
    obtain ⟨w16, hw16⟩ : ∃ w16, w15.drewN n16 = w16 := ⟨_, rfl⟩
    rw [hw16] at M16 K16 ⊢
    clear hw16
    go_wp2_with (go_at_call 32; refine (HH.out _ M16.out).mono ?_; rintro e w17 ⟨rfl, rfl⟩)
    go_ret
    exact ⟨rfl, K16.out⟩
  · rw [if_neg hlen] at HZ
    go_enter Try.func17, Try.ntmps17
    go_wp2_with (go_at_call 33; refine (HZ.out _).mono ?_; rintro e w2 ⟨rfl, b2⟩; have S2 := St.next S1 b2; clear b2)
    go_ret
    exact ⟨rfl, S2.out.2.2⟩
end Go.Proofs.Ytmlcdbjibngnkaa
