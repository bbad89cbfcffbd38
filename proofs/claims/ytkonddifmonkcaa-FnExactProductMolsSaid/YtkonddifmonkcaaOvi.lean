/- Two squares over one another: the program. -/
import Derived.Test.YtkonddifmonkcaaOva
import Derived.Test.YtkonddifmonkcaaLs2
namespace Go.Proofs.Ytkonddifmonkcaa
open Go.RowKit Go.Shelf
set_option linter.unusedVariables false

/-- A grid some of whose cells are numbers of another one. -/
def ovSt (f h : Nat → Nat → Int) (x y : Nat) : Nat → Nat → Int := fun a b => if a < x ∨ a = x ∧ b < y then h a b else f a b
theorem ovSt_zero (f h : Nat → Nat → Int) : ovSt f h 0 0 = f := by
  funext a b
  unfold ovSt
  rw [if_neg (by omega)]
theorem ovSt_at (f h : Nat → Nat → Int) (x y : Nat) : ovSt f h x y x y = f x y := by
  unfold ovSt
  rw [if_neg (by omega)]
theorem ovSt_step (f h : Nat → Nat → Int) (x y : Nat) : upd2 (ovSt f h x y) x y (h x y) = ovSt f h x (y + 1) := by
  funext a b
  unfold upd2 ovSt
  by_cases c : a = x ∧ b = y
  · rw [if_pos c, if_pos (by omega), c.1, c.2]
  · rw [if_neg c]
    by_cases d : a < x ∨ a = x ∧ b < y
    · rw [if_pos d, if_pos (by omega)]
    · rw [if_neg d, if_neg (by omega)]
theorem ovSt_row (f h : Nat → Nat → Int) (n x : Nat) : gridL n n (ovSt f h x n) = gridL n n (ovSt f h (x + 1) 0) := gridL_congr fun a b ha hb => by
  unfold ovSt
  by_cases d : a < x ∨ a = x ∧ b < n
  · rw [if_pos d, if_pos (by omega)]
  · rw [if_neg d, if_neg (by omega)]
theorem ovSt_all (f h : Nat → Nat → Int) (n : Nat) : gridL n n (ovSt f h n 0) = gridL n n h := gridL_congr fun a b ha hb => by
  unfold ovSt
  rw [if_pos (by omega)]
/-- The outer block of a grid is none of its rows. -/
theorem gridNe {w : World} {B L n m x g0 c0 g l c : Nat} {f : Nat → Nat → Int} (h : RowsL w B L (.slice (some ⟨g0, 0, none⟩) n c0) (gridL n m f)) (hx : x < n) (hm : 1 ≤ m) (e : w.cell? ⟨g0, x, none⟩ = some (.slice (some ⟨g, 0, none⟩) l c)) : g ≠ g0 := by
  obtain ⟨us, hus, ho, hv, hL, hr, hd⟩ := h
  rw [gridL_length] at hus ho hr
  have e1 := ho.cellAt x (by omega)
  have ex : us[x]? = some (us.getD x undef) := by simp [List.getD, List.getElem?_eq_getElem (show x < us.length by omega)]
  rw [ex, e] at e1
  simp only [Option.some.injEq] at e1
  have hrx := (hr x hx).1
  rw [← e1] at hrx
  intro k
  subst k
  exact ownsRow.ne_ints ho hrx rfl rfl

set_option maxRecDepth 100000 in
set_option maxHeartbeats 8000000 in
theorem isup (n : Nat) (l1 : 1 ≤ n) (hn : n ≤ 10) (w : World) (f h : Nat → Nat → Int) (jf : InSq n f) (jg : InSq n h) :
    Calls Try.prog 47 #[.agg (iar 101 (sqC n f)), .agg (iar 101 (sqC n h))] w fun e w' => ∃ r, e = .returned r ∧ RowsL w' w.heap.size w'.heap.size r (gridL n n (overF n f h)) ∧ Below w.heap.size w w' := by
  obtain ⟨b, hb⟩ : ∃ b, w.heap.size = b := ⟨_, rfl⟩
  have q1 : (w.alloc (.cells (iar 101 (sqC n f)) 46)).heap.size = b + 1 := by rw [World.size_alloc, hb]
  have b1 : Below b w (w.alloc (.cells (iar 101 (sqC n f)) 46)) := (Below.refl _ _).alloc (by omega) _
  have A1 : SqAt (w.alloc (.cells (iar 101 (sqC n f)) 46)) b n f := by unfold SqAt Ia; rw [← hb]; exact heap_alloc_new _ _
  obtain ⟨w1, hw1⟩ : ∃ w1, w.alloc (.cells (iar 101 (sqC n f)) 46) = w1 := ⟨_, rfl⟩
  rw [hw1] at q1 b1 A1
  have q2 : (w1.alloc (.cells (iar 101 (sqC n h)) 46)).heap.size = b + 2 := by rw [World.size_alloc, q1]
  have b2 : Below b w (w1.alloc (.cells (iar 101 (sqC n h)) 46)) := b1.alloc (by omega) _
  have A2 : SqAt (w1.alloc (.cells (iar 101 (sqC n h)) 46)) b n f := (heap_alloc_old _ _ (by omega)).trans A1
  have C2 : SqAt (w1.alloc (.cells (iar 101 (sqC n h)) 46)) (b + 1) n h := by unfold SqAt Ia; rw [← q1]; exact heap_alloc_new _ _
  obtain ⟨w2, hw2⟩ : ∃ w2, w1.alloc (.cells (iar 101 (sqC n h)) 46) = w2 := ⟨_, rfl⟩
  rw [hw2] at q2 b2 A2 C2
  have HR := Lib.hid (irows2 n hn w2 f)
  have HA := Lib.hid A2
  have HC := Lib.hid C2
  have HB2 := Lib.hid b2
  have JF := Lib.hid jf
  have JG := Lib.hid jg
  have PF : Hid (∀ x y, overF n f h x y = (n : Int) * f x y + h x y) := fun x y => rfl
  obtain ⟨pf, hpf⟩ : ∃ pf, overF n f h = pf := ⟨_, rfl⟩
  rw [hpf] at PF ⊢
  have FS : Hid (∀ x y, upd2 (ovSt f pf x y) x y (pf x y) = ovSt f pf x (y + 1)) := fun x y => ovSt_step f pf x y
  have FT : Hid (∀ x y, ovSt f pf x y x y = f x y) := fun x y => ovSt_at f pf x y
  have FR : Hid (∀ x, gridL n n (ovSt f pf x n) = gridL n n (ovSt f pf (x + 1) 0)) := fun x => ovSt_row f pf n x
  have FA : Hid (gridL n n (ovSt f pf n 0) = gridL n n pf) := ovSt_all f pf n
  have F0 : Hid (gridL n n f = gridL n n (ovSt f pf 0 0)) := by unfold Hid; rw [ovSt_zero]
  have HH := Lib.hid hb
  rw [hb]
  clear jf jg hpf b1 A1 b2 A2 C2
  go_enter Try.func47, Try.ntmps47
  go_wp2_with (refine wpList_load_row rfl 46 (.tmp 2) rfl _ rfl _ _ _ _ HA.out Try.underlying46 rfl (by rw [iar_size]; exact Try.infoSq) ?_)
  refine HR.out.mono ?_
  rintro e w3 ⟨r, rfl, r3, b3⟩
  obtain ⟨g0, c0, rfl⟩ := r3.parts l1
  obtain ⟨Z, hZ⟩ : ∃ Z, w3.heap.size = Z := ⟨_, rfl⟩
  rw [hZ, q2, F0.out] at r3
  rw [q2] at b3
  have R3 := Lib.hid r3
  have B3 := Lib.hid b3
  have zz3 : Hid (w3.heap.size = Z) := hZ
  have q2' := Lib.hid q2
  clear r3 b3 hZ HR hb q1 q2 hw1 hw2
  go_wp2
  go_loopw [14] (fun i wr => ∃ x : Nat, x ≤ n ∧ i = .int .i64 x ∧ Hid (RowsL wr (b + 2) Z (.slice (some ⟨g0, 0, none⟩) n c0) (gridL n n (ovSt f pf x 0))) ∧ Hid (Below (b + 2) w2 wr) ∧ Hid (wr.heap.size = Z)) (fun i _ => n - (intOf i).toNat)
  case atStart => exact ⟨0, by omega, rfl, R3, B3, zz3⟩
  case round =>
    obtain ⟨x, hx, rfl, hR, hBl, hz⟩ := hrel
    by_cases c : x < n
    · have k1 : decide (x < n) = true := by simpa using c
      have k1' : decide ((x : Int) < (n : Int)) = true := decide_eq_true (by omega)
      have wx3 := IntWalk.i64_in ((x : Int) + 1) (by omega)
      have x0 : (0 : Int) ≤ (x : Int) := by omega
      have x1 : (x : Int) < (n : Int) := by omega
      have x2 : (x : Int) < 10 := by omega
      obtain ⟨g0', c0', g, cc, e0, d1, -, -, -, -, -⟩ := gridSet hR.out c (y := 0) (by omega)
      simp only [Value.slice.injEq, Option.some.injEq, Addr.mk.injEq] at e0
      obtain ⟨⟨rfl, -⟩, -, rfl⟩ := e0
      have gne := gridNe hR.out c l1 d1
      have CG := Lib.hid d1
      obtain ⟨wq, rfl⟩ : ∃ wq : World, wq = wr := ⟨_, rfl⟩
      go_wp2
      clear d1
      go_loopw [21] (fun i wr => ∃ y : Nat, y ≤ n ∧ i = .int .i64 y ∧ Hid (RowsL wr (b + 2) Z (.slice (some ⟨g0, 0, none⟩) n c0) (gridL n n (ovSt f pf x y))) ∧ Hid (wr.cell? ⟨g0, x, none⟩ = some (.slice (some ⟨g, 0, none⟩) n cc)) ∧ Hid (Below (b + 2) w2 wr) ∧ Hid (wr.heap.size = Z)) (fun i _ => n - (intOf i).toNat)
      case atStart => exact ⟨0, by omega, rfl, hR, CG, hBl, hz⟩
      case round =>
        obtain ⟨y, hy, rfl, hR2, hC2, hBl2, hz2⟩ := hrel
        by_cases c2 : y < n
        · have k2 : decide (y < n) = true := by simpa using c2
          have k2' : decide ((y : Int) < (n : Int)) = true := decide_eq_true (by omega)
          have wy4 := IntWalk.i64_in ((y : Int) + 1) (by omega)
          have y0 : (0 : Int) ≤ (y : Int) := by omega
          have y1 : (y : Int) < (n : Int) := by omega
          have y2 : (y : Int) < 10 := by omega
          have fs := FS.out x y
          rw [PF.out x y] at fs
          have ju := JF.out x y c c2
          have jv := JG.out x y c c2
          obtain ⟨g0', c0', g', cc', e0, d1, d2, d3, d4, d5, d6⟩ := gridSet hR2.out c c2
          simp only [Value.slice.injEq, Option.some.injEq, Addr.mk.injEq] at e0
          obtain ⟨⟨rfl, -⟩, -, rfl⟩ := e0
          rw [hC2.out] at d1
          simp only [Option.some.injEq, Value.slice.injEq, Addr.mk.injEq] at d1
          obtain ⟨⟨rfl, -⟩, -, rfl⟩ := d1
          rw [FT.out x y] at d2
          have sA : SqAt wr b n f := SqAt.below HA.out hBl2.out (by omega)
          have sC : SqAt wr (b + 1) n h := SqAt.below HC.out hBl2.out (by omega)
          have m1 := SqAt.order sA
          have m2 := Ia.cell sC (1 + x * 10 + y) (by omega)
          rw [sqC_at _ _ (by omega)] at m2
          obtain ⟨s, hs⟩ : ∃ s, f x y = s := ⟨_, rfl⟩
          obtain ⟨t, ht⟩ : ∃ t, h x y = t := ⟨_, rfl⟩
          rw [hs] at d2 ju fs
          rw [ht] at m2 jv fs
          have mu0 : 0 ≤ (n : Int) * s := Int.mul_nonneg (by omega) ju.1
          have mu1 : (n : Int) * s ≤ 10 * 10 := Int.mul_le_mul (by omega) (by omega) ju.1 (by omega)
          obtain ⟨M, hM⟩ : ∃ M, (n : Int) * s = M := ⟨_, rfl⟩
          rw [hM] at mu0 mu1 fs
          have a5 := IntWalk.i64_in M (by omega)
          have a6 := IntWalk.i64_in (M + t) (by omega)
          obtain ⟨wd, hwd⟩ : ∃ wd, wr.drew = wd := ⟨_, rfl⟩
          have E1 : wd.cell? ⟨b, 0, none⟩ = some (.int .i64 n) := by rw [← hwd]; exact m1
          have E2 : wd.cell? ⟨b + 1, 1 + x * 10 + y, none⟩ = some (.int .i64 t) := by rw [← hwd]; exact m2
          have E3 : wd.cell? ⟨g, y, none⟩ = some (.int .i64 s) := by rw [← hwd]; exact d2
          have E4 : wd.frozen? ⟨g, y, none⟩ = false := by rw [← hwd]; exact d3
          have S1 : Hid (RowsL (wd.setCell ⟨g, y, none⟩ (.int .i64 (M + t))) (b + 2) Z (.slice (some ⟨g0, 0, none⟩) n c0) (gridL n n (ovSt f pf x (y + 1)))) := by have := d6 (M + t); rw [fs] at this; rw [← hwd]; exact this
          have S2 : Hid (Below (b + 2) w2 (wd.setCell ⟨g, y, none⟩ (.int .i64 (M + t)))) := by rw [← hwd]; exact hBl2.out.drew.setCell (p := ⟨g, y, none⟩) d4 _
          have S3 : Hid ((wd.setCell ⟨g, y, none⟩ (.int .i64 (M + t))).heap.size = Z) := by unfold Hid; rw [← hz2.out, ← hwd]; simp [World.setCell]
          have S4 : Hid ((wd.setCell ⟨g, y, none⟩ (.int .i64 (M + t))).cell? ⟨g0, x, none⟩ = some (.slice (some ⟨g, 0, none⟩) n cc)) := by unfold Hid; rw [World.cell?_setCell_far _ _ _ _ gne, ← hwd]; exact hC2.out
          clear fs d6 sA sC hs ht m1 m2 d3
          go_wp2
          refine wp_region_still_tail 14 (by kernel_rfl) (by kernel_rfl) ?_
          simp only [List.take_succ_cons, List.take_zero, List.drop_succ_cons, List.drop_zero]
          change wpStill _ _ wr.drew _ _ _
          rw [hwd]
          repeat still_step
          refine wpStill_nil ?_
          change wpList _ _ _ _ _ wr.drew
          rw [hwd]
          clear hwd d2
          go_wp2
          go_roundw
          case rel => exact ⟨y + 1, by omega, by go_num, S1, S4, S2, S3⟩
          case measure => simp [intOf]; omega
        · have k2 : decide (y < n) = false := by simpa using c2
          have k2' : decide ((y : Int) < (n : Int)) = false := decide_eq_false (by omega)
          obtain rfl : y = n := by omega
          go_wp2
          go_roundw
          case rel => exact ⟨x + 1, by omega, by go_num, by unfold Hid; rw [← FR.out]; exact hR2.out, hBl2, hz2⟩
          case measure => simp [intOf]; omega
    · have k1 : decide (x < n) = false := by simpa using c
      have k1' : decide ((x : Int) < (n : Int)) = false := decide_eq_false (by omega)
      obtain rfl : x = n := by omega
      have hR' := hR.out
      rw [FA.out, ← hz.out] at hR'
      have RR := Lib.hid (hR'.mono (B' := b) (by omega) (Nat.le_refl _) (Nat.le_refl _))
      have BB := Lib.hid (HB2.out.trans (hBl.out.mono (by omega)))
      clear hR'
      go_wp2
      go_ret
      exact ⟨_, rfl, RR.out, BB.out⟩
end Go.Proofs.Ytkonddifmonkcaa
