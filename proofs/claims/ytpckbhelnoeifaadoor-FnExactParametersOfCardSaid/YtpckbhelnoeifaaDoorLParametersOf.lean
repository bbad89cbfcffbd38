/- ParametersOf: the law. -/
import Derived.Test.YtpckbhelnoeifaaDoorPax
import Derived.Test.YtpckbhelnoeifaaDoorDst
namespace Go.Proofs.YtpckbhelnoeifaaDoor
open Go.RowKit
set_option linter.unusedVariables false

set_option maxRecDepth 100000 in
set_option maxHeartbeats 1000000 in
theorem eqPrm (a b c d e : Int) (W : World) :
    Calls Tryd.prog 16 #[.agg #[.int .i64 a, .int .i64 b, .int .i64 c, .int .i64 d, .int .i64 e], .agg #[.int .i64 a, .int .i64 b, .int .i64 c, .int .i64 d, .int .i64 e]] W fun r w' => r = .returned (.bool true) ∧ Below W.heap.size W w' := by
  obtain ⟨B, hB⟩ : ∃ B, W.heap.size = B := ⟨_, rfl⟩
  obtain ⟨w1, hw1⟩ : ∃ w1, W.alloc (.cells #[.int .i64 a, .int .i64 b, .int .i64 c, .int .i64 d, .int .i64 e] 27) = w1 := ⟨_, rfl⟩
  have z1 : w1.heap.size = B + 1 := by rw [← hw1, World.size_alloc, hB]
  have b1 : Below B W w1 := by rw [← hw1]; exact (Below.refl _ _).alloc (by omega) _
  have A1 : w1.heap[B]? = some (.cells #[.int .i64 a, .int .i64 b, .int .i64 c, .int .i64 d, .int .i64 e] 27 (0, 0)) := by rw [← hw1, ← hB]; exact heap_alloc_new _ _
  obtain ⟨w2, hw2⟩ : ∃ w2, w1.alloc (.cells #[.int .i64 a, .int .i64 b, .int .i64 c, .int .i64 d, .int .i64 e] 27) = w2 := ⟨_, rfl⟩
  have b12 : Below (B + 1) w1 w2 := by rw [← hw2]; exact (Below.refl _ _).alloc (Nat.le_of_eq z1.symm) _
  have b2 : Hid (Below B W w2) := b1.trans (b12.mono (Nat.le_succ B))
  have A2 := (b12.block B (Nat.lt_succ_self B)).trans A1
  have R2 : w2.heap[B + 1]? = some (.cells #[.int .i64 a, .int .i64 b, .int .i64 c, .int .i64 d, .int .i64 e] 27 (0, 0)) := by rw [← hw2, ← z1]; exact heap_alloc_new _ _
  obtain ⟨y0, y1, y2, y3, y4, -, -, -, -, -⟩ := cells5 w2 B _ _ _ _ _ _ A2
  obtain ⟨x0, x1, x2, x3, x4, -, -, -, -, -⟩ := cells5 w2 (B + 1) _ _ _ _ _ _ R2
  have ta : (a != a) = false := by simp
  have tb : (b != b) = false := by simp
  have tc : (c != c) = false := by simp
  have td : (d != d) = false := by simp
  have te : (e != e) = false := by simp
  clear A1 A2 R2 b1 b12
  go_enter Tryd.func16, Tryd.ntmps16
  go_wp2
  go_ret
  exact ⟨rfl, by first | exact b2.out | (rw [hB]; exact b2.out)⟩

set_option maxRecDepth 100000 in
set_option maxHeartbeats 4000000 in
theorem law_FnExactParametersOf (n : Int) (v0 : Value) (xs : List (List Int)) (w : World) (_ : (Lit.int .i64 n).wf = true) (hv : RowsAt w v0 xs) (hx : ∀ r ∈ xs, ∀ x ∈ r, I64 x) (ht : Tab w) :
    Calls Tryd.prog 3 #[.agg #[.int .i64 n, v0]] w fun e w' => e = .returned (.bool true) ∧ Below w.heap.size w w' := by
  obtain ⟨a, cap, rfl, -⟩ := hv.shape
  obtain ⟨len, hlen⟩ : ∃ l, xs.length = l := ⟨_, rfl⟩
  rw [hlen] at hv ⊢
  have HL := Lib.hid hlen
  have S1 := Arg.new n 24 hv
  have hpos := ht.pos
  have TB := Lib.hid (fun W (h : Below w.heap.size w W) => ht.below h hpos)
  have HZ := Lib.hid (fun W (h : RowsAt W (.slice a len cap) xs) => sz_Design W n _ xs 1048576 h (by omega) (by omega))
  have HS := fun W v h => sParametersOf n xs W v h
  have HI0 := Lib.hid (fun hl W v h t => iParametersOf n xs hl W v h t)
  obtain ⟨va, vb, vc, vd, ve, hform⟩ := form0 n xs
  obtain ⟨z1, hz1⟩ : ∃ z, ParametersOf_1 n xs = z := ⟨_, rfl⟩
  simp only [hform, hz1, prm] at HS HI0
  have HS := Lib.hid HS
  have tz1 : (z1 != z1) = false := by simp
  obtain ⟨w1, hw1⟩ : ∃ w1, w.alloc (.cells #[.int .i64 n, .slice a len cap] 24) = w1 := ⟨_, rfl⟩
  obtain ⟨A, hA⟩ : ∃ A, w.heap.size = A := ⟨_, rfl⟩
  rw [hw1, hA] at S1
  clear hform hz1 hv hx hlen ht hpos
  obtain ⟨c0, c1⟩ := S1.out.2.2.1.cells
  go_enter Tryd.func3, Tryd.ntmps3
  go_wp2_with fail
  try rw [hw1]
  refine (HZ.out _ (Arg.rows S1)).mono ?_
  rintro e w2 ⟨q, rfl, hq, b2⟩
  have S2 := Arg.next S1 b2
  clear b2 c0 c1 hw1 HZ
  by_cases k : q < 0
  · have t : decide (q < 0) = true := decide_eq_true k
    go_wp2
    go_ret
    exact ⟨rfl, S2.out.2.2.2⟩
  have t : decide (q < 0) = false := decide_eq_false k
  obtain ⟨hq1, -⟩ := hq (by omega)
  have HTo := Lib.hid (fun W (h : RowsAt W (.slice a len cap) xs) => copy_Design W n _ xs h (by omega))
  have HI := Lib.hid (HI0.out (by omega))
  have HE := Lib.hid (fun u u' W (h1 : RowsAt W u xs) (h2 : RowsAt W u' xs) => eq_Design W n u u' xs h1 h2)
  have TQ : tot xs ≤ 1048576 := by omega
  clear hq HI0
  obtain ⟨c0, c1⟩ := S2.out.2.2.1.cells
  go_wp2_with fail
  refine (HTo.out _ (Arg.rows S2)).mono ?_
  rintro e w3 ⟨v3, rfl, i3, b3⟩
  have S3 := Arg.next S2 b3
  have I3 := Lib.hid i3.at
  clear i3 b3 c0 c1 S2
  go_wp2_with fail
  refine (HS.out _ _ I3.out).mono ?_
  rintro e w4 ⟨rfl, b4⟩
  have S4 := Arg.next S3 b4
  clear I3 b4 S3 HS
  obtain ⟨G, hG⟩ : ∃ G, w4.heap.size = G := ⟨_, rfl⟩
  obtain ⟨wa, hwa⟩ : ∃ wa, w4.alloc (.cells #[.int .i64 va, .int .i64 vb, .int .i64 vc, .int .i64 vd, .int .i64 ve] 27) = wa := ⟨_, rfl⟩
  have F4 : wa.heap[G]? = some (.cells #[.int .i64 va, .int .i64 vb, .int .i64 vc, .int .i64 vd, .int .i64 ve] 27 (0, 0)) := by rw [← hwa, ← hG]; exact heap_alloc_new _ _
  have Sa := Arg.next S4 (show Below w4.heap.size w4 wa by rw [← hwa]; exact (Below.refl _ _).alloc (Nat.le_refl _) _)
  have HF4 : Hid (∀ W, Below wa.heap.size wa W → W.heap[G]? = some (.cells #[.int .i64 va, .int .i64 vb, .int .i64 vc, .int .i64 vd, .int .i64 ve] 27 (0, 0))) := fun W h => (h.block G (Array.getElem?_eq_some_iff.1 F4).1).trans F4
  clear F4 S4
  obtain ⟨c0, c1⟩ := Sa.out.2.2.1.cells
  go_wp2_with fail
  try rw [hwa]
  refine (HTo.out _ (Arg.rows Sa)).mono ?_
  rintro e w5 ⟨v5, rfl, i5, b5⟩
  have S5 := Arg.next Sa b5
  have lA := Sa.out.2.2.1.lt
  obtain ⟨b, hb⟩ : ∃ b, wa.heap.size = b := ⟨_, rfl⟩
  rw [hb] at i5 b5 lA HF4
  have s5 : b ≤ w5.heap.size := by rw [← hb]; exact b5.size
  have U5 : Below b wa w5 := b5
  obtain ⟨a5, cap5, e5, -⟩ := i5.at.shape
  rw [HL.out] at e5
  subst e5
  have C6 := Cpy.new n 30 i5 s5
  have ba : Below w5.heap.size w5 (w5.alloc (.cells #[.int .i64 n, .slice a5 len cap5] 30)) := (Below.refl _ _).alloc (Nat.le_refl _) _
  have S6 := Arg.next S5 ba
  have U6 : Below b wa (w5.alloc (.cells #[.int .i64 n, .slice a5 len cap5] 30)) := U5.trans (ba.mono s5)
  obtain ⟨X, hX⟩ : ∃ X, w5.heap.size = X := ⟨_, rfl⟩
  obtain ⟨w6, hw6⟩ : ∃ w6, w5.alloc (.cells #[.int .i64 n, .slice a5 len cap5] 30) = w6 := ⟨_, rfl⟩
  rw [hX] at C6 s5
  rw [hw6] at C6 S6 U6
  have HU6 := Lib.hid U6
  have zb6 : Hid (b ≤ w6.heap.size) := Nat.le_trans (Nat.le_of_eq hb.symm) U6.size
  clear i5 b5 c0 c1 Sa S5 U5 U6 ba hwa hG
  obtain ⟨d0, d1⟩ := C6.out.1.cells
  go_wp2_with fail
  try rw [hw6]
  refine (HI.out _ _ C6.out.2.1.at (TB.out _ S6.out.2.2.2)).mono ?_
  rintro e w7 ⟨rfl, b7⟩
  have S7 := Arg.next S6 b7
  have C7 := Cpy.next C6 b7
  have U7 : Below b wa w7 := HU6.out.trans (b7.mono zb6.out)
  obtain ⟨Y, hY⟩ : ∃ Y, w7.heap.size = Y := ⟨_, rfl⟩
  obtain ⟨w8, hw8⟩ : ∃ w8, w7.alloc (.cells #[.int .i64 va, .int .i64 vb, .int .i64 vc, .int .i64 vd, .int .i64 ve] 27) = w8 := ⟨_, rfl⟩
  have b78 : Below w7.heap.size w7 w8 := by rw [← hw8]; exact (Below.refl _ _).alloc (Nat.le_refl _) _
  have F8 : w8.heap[Y]? = some (.cells #[.int .i64 va, .int .i64 vb, .int .i64 vc, .int .i64 vd, .int .i64 ve] 27 (0, 0)) := by rw [← hw8, ← hY]; exact heap_alloc_new _ _
  have S8 := Arg.next S7 b78
  have C8 := Cpy.next C7 b78
  have U8 : Below b wa w8 := U7.trans (b78.mono (Nat.le_trans (Nat.le_of_eq hb.symm) U7.size))
  obtain ⟨x0, x1, x2, x3, x4, -, -, -, -, -⟩ := cells5 w8 G _ _ _ _ _ _ (HF4.out w8 U8)
  obtain ⟨y0, y1, y2, y3, y4, -, -, -, -, -⟩ := cells5 w8 Y _ _ _ _ _ _ F8
  have HQ := Lib.hid (fun W => eqPrm va vb vc vd ve W)
  clear b7 d0 d1 U7 hw6 hX S6 C6 HU6 b78 F8 S7 C7 U8 hb HF4 zb6
  go_wp2_with fail
  try rw [hw8]
  refine (HQ.out _).mono ?_
  rintro e w9 ⟨rfl, b9⟩
  have S9 := Arg.next S8 b9
  have C9 := Cpy.next C8 b9
  obtain ⟨P, hP⟩ : ∃ P : World → Prop, P = fun W => True := ⟨_, rfl⟩
  have KP : Keeps P := fun W W' hb h => by rw [hP]; trivial
  have D9 : Hid (StD P w A X b n (.slice a len cap) (.slice a5 len cap5) xs w9) := ⟨S9.out, C9.out, by rw [hP]; trivial⟩
  have D9d := StD.next KP D9 (Below.refl _ _).drew
  clear hP S8 C8 S9 C9 b9 x0 x1 x2 x3 x4 y0 y1 y2 y3 y4 hw8 hY
  go_upto_region 10 with fail
  go_region_held3 (fun w' => (w'.cell? ⟨A, 0, none⟩ = some (.int .i64 n) ∧ w'.cell? ⟨A, 1, none⟩ = some (.slice a len cap)) ∧ (w'.cell? ⟨X, 0, none⟩ = some (.int .i64 n) ∧ w'.cell? ⟨X, 1, none⟩ = some (.slice a5 len cap5)) ∧ Hid (StD P w A X b n (.slice a len cap) (.slice a5 len cap5) xs w')) (first | exact held_std (by assumption))
    (first | (go_at_call 14; refine (HTo.out _ (Arg.rows (Lib.hid (Hid.out (by assumption : Hid (StD P w A X b n (.slice a len cap) (.slice a5 len cap5) xs _))).1))).mono ?_; rintro e wc ⟨v9, rfl, i9, b9⟩; have Dc := StD.next KP (by assumption) b9; have I9 := Lib.hid i9.at) | (go_at_call 17; refine (HE.out _ _ _ Dc.out.2.1.2.1.at I9.out).mono ?_; rintro e wd ⟨rfl, ba⟩; have Da := StD.next KP Dc ba))
  go_wp2
  go_ret
  exact ⟨rfl, Da.out.1.2.2.2⟩
end Go.Proofs.YtpckbhelnoeifaaDoor
