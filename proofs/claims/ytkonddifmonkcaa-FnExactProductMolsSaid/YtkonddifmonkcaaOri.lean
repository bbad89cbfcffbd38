/- Orthogonal squares: the program. -/
import Derived.Test.YtkonddifmonkcaaOvi
import Derived.Test.YtkonddifmonkcaaBa
namespace Go.Proofs.Ytkonddifmonkcaa
open Go.RowKit Go.Shelf
set_option linter.unusedVariables false

theorem RowsL.far {w : World} {B L : Nat} {v : Value} {xss : List (List Int)} (h : RowsL w B L v xss) (p : Addr) (u : Value) (hp : p.block < B) : RowsL (w.setCell p u) B L v xss := by
  obtain ⟨us, e, ho, h1, h2, hr, hd⟩ := h
  refine ⟨us, e, ownsRow_of_block ho (fun k ek => Below.heap_setCell w p u k (by have := (World.ownsRow.lt ho k ek).1; omega)), h1, by simpa [World.setCell] using h2, fun j hj => ?_, hd⟩
  exact ⟨ownsRow_of_block (hr j hj).1 (fun k ek => Below.heap_setCell w p u k (by have := (World.ownsRow.lt (hr j hj).1 k ek).1; omega)), (hr j hj).2.1, by simpa [World.setCell] using h2⟩
theorem RowsL.base {w : World} {B L n c0 g0 : Nat} {xss : List (List Int)} (h : RowsL w B L (.slice (some ⟨g0, 0, none⟩) n c0) xss) : B ≤ g0 := by
  obtain ⟨us, e, ho, _⟩ := h
  exact (World.ownsRow.lt ho g0 rfl).1
theorem zeroSeen : Try.zeroCells78 = bar 100 (fun _ => false) := by kernel_rfl
noncomputable def ortB (n m : Nat) (f h : Nat → Nat → Int) : Bool := if n = m then distB (n * n) (lineG n (overF n f h)) else false

set_option maxRecDepth 100000 in
set_option maxHeartbeats 8000000 in
theorem iortho (n m : Nat) (l1 : 1 ≤ n) (hn : n ≤ 10) (hm : m ≤ 10) (w : World) (f h : Nat → Nat → Int) (jf : InSq n f) (jg : InSq m h) :
    Calls Try.prog 42 #[.agg (iar 101 (sqC n f)), .agg (iar 101 (sqC m h))] w fun e w' => e = .returned (.bool (ortB n m f h)) ∧ Below w.heap.size w w' := by
  obtain ⟨b, hb⟩ : ∃ b, w.heap.size = b := ⟨_, rfl⟩
  have q1 : (w.alloc (.cells (iar 101 (sqC n f)) 46)).heap.size = b + 1 := by rw [World.size_alloc, hb]
  have b1 : Below b w (w.alloc (.cells (iar 101 (sqC n f)) 46)) := (Below.refl _ _).alloc (by omega) _
  have A1 : SqAt (w.alloc (.cells (iar 101 (sqC n f)) 46)) b n f := by unfold SqAt Ia; rw [← hb]; exact heap_alloc_new _ _
  obtain ⟨w1, hw1⟩ : ∃ w1, w.alloc (.cells (iar 101 (sqC n f)) 46) = w1 := ⟨_, rfl⟩
  rw [hw1] at q1 b1 A1
  have q2 : (w1.alloc (.cells (iar 101 (sqC m h)) 46)).heap.size = b + 2 := by rw [World.size_alloc, q1]
  have b2 : Below b w (w1.alloc (.cells (iar 101 (sqC m h)) 46)) := b1.alloc (by omega) _
  have A2 : SqAt (w1.alloc (.cells (iar 101 (sqC m h)) 46)) b n f := (heap_alloc_old _ _ (by omega)).trans A1
  have C2 : SqAt (w1.alloc (.cells (iar 101 (sqC m h)) 46)) (b + 1) m h := by unfold SqAt Ia; rw [← q1]; exact heap_alloc_new _ _
  obtain ⟨w2, hw2⟩ : ∃ w2, w1.alloc (.cells (iar 101 (sqC m h)) 46) = w2 := ⟨_, rfl⟩
  rw [hw2] at q2 b2 A2 C2
  have o1 := SqAt.order A2
  have o2 := SqAt.order C2
  have HH := Lib.hid hb
  rw [hb]
  by_cases k : n = m
  case neg =>
    have V : Hid (ortB n m f h = false) := if_neg k
    have HB2 := Lib.hid b2
    have e1 : ((n : Int) != (m : Int)) = true := by simp; omega
    have e1' : (n != m) = true := by simp [k]
    clear jf jg b1 A1 b2 A2 C2 k
    go_enter Try.func42, Try.ntmps42
    go_wp2
    go_ret
    exact ⟨by rw [V.out]; rfl, HB2.out⟩
  subst k
  have V : Hid (ortB n n f h = distB (n * n) (lineG n (overF n f h))) := if_pos rfl
  have OI := Lib.hid (fun x y (hx : x < n) (hy : y < n) => over_in jf jg hx hy)
  have e1 : ((n : Int) != (n : Int)) = false := by simp
  have e1' : (n != n) = false := by simp
  have q3 : (w2.alloc (.cells Try.zeroCells78 78)).heap.size = b + 3 := by rw [World.size_alloc, q2]
  have b3 : Below b w (w2.alloc (.cells Try.zeroCells78 78)) := b2.alloc (by omega) _
  have A3 : SqAt (w2.alloc (.cells Try.zeroCells78 78)) b n f := (heap_alloc_old _ _ (by omega)).trans A2
  have C3 : SqAt (w2.alloc (.cells Try.zeroCells78 78)) (b + 1) n h := (heap_alloc_old _ _ (by omega)).trans C2
  have S3 : Ba (w2.alloc (.cells Try.zeroCells78 78)) 78 (b + 2) 100 (fun _ => false) := by unfold Ba; rw [← q2, heap_alloc_new, zeroSeen]
  obtain ⟨w3, hw3⟩ : ∃ w3, w2.alloc (.cells Try.zeroCells78 78) = w3 := ⟨_, rfl⟩
  rw [hw3] at q3 b3 A3 C3 S3
  have HS := Lib.hid (isup n l1 hn w3 f h jf jg)
  obtain ⟨F, hF⟩ : ∃ F, overF n f h = F := ⟨_, rfl⟩
  simp only [hF] at OI V HS
  obtain ⟨G, hG⟩ : ∃ G, lineG n F = G := ⟨_, rfl⟩
  have GA : Hid (∀ x y, y < n → G (x * n + y) = F x y) := fun x y h => by rw [← hG]; exact lineG_at F h
  rw [hG] at V
  have nn : n * n ≤ 10 * 10 := Nat.mul_le_mul hn hn
  have MB : Hid (∀ x y, x < n → y < n → x * n + y < n * n) := fun x y hx hy => by
    have : (x + 1) * n ≤ n * n := Nat.mul_le_mul_right n hx
    rw [Nat.succ_mul] at this; omega
  have MS : Hid (∀ x, (x + 1) * n + 0 = x * n + n) := fun x => by rw [Nat.succ_mul, Nat.add_zero]
  have ec : (n : Int) * (n : Int) = ((n * n : Nat) : Int) := (Int.natCast_mul n n).symm
  obtain ⟨q, hq⟩ : ∃ q, n * n = q := ⟨_, rfl⟩
  rw [hq] at nn ec V MB
  rw [ec] at OI
  have MQ : Hid (n * n = q) := hq
  have YES : Hid (Dist q G → distB q G = true) := fun h => distB_true h
  have NO : Hid (¬ Dist q G → distB q G = false) := fun h => distB_false h
  have HA := Lib.hid A3
  have HC := Lib.hid C3
  have HZ := Lib.hid S3
  have HB3 := Lib.hid b3
  clear jf jg b1 A1 b2 A2 C2 A3 C3 S3 b3 hF hG hq ec
  go_enter Try.func42, Try.ntmps42
  go_wp2_with (first
    | (refine wpList_load_row rfl 46 (.tmp 2) rfl _ rfl _ _ _ _ HA.out Try.underlying46 rfl (by rw [iar_size]; exact Try.infoSq) ?_)
    | (refine wpList_load_row rfl 46 (.tmp 3) rfl _ rfl _ _ _ _ HC.out Try.underlying46 rfl (by rw [iar_size]; exact Try.infoSq) ?_))
  refine HS.out.mono ?_
  rintro e w4 ⟨r, rfl, r4, b4⟩
  obtain ⟨g0, c0, rfl⟩ := r4.parts l1
  obtain ⟨Z, hZ⟩ : ∃ Z, w4.heap.size = Z := ⟨_, rfl⟩
  rw [hZ, q3] at r4
  rw [q3] at b4
  have R4 := Lib.hid r4
  have A4 : Hid (Ba w4 78 (b + 2) 100 (seenP G (0 * n + 0))) := by unfold Hid; rw [Nat.zero_mul, seenP_zero]; exact HZ.out.below b4 (by omega)
  have B4 : Hid (Below b w w4) := HB3.out.trans (b4.mono (by omega))
  have D0 : Hid (Dist (0 * n + 0) G) := fun a b hab hb => by omega
  clear r4 b4 hZ HS HA HC HZ hb q1 q2 q3 hw1 hw2 hw3 o1 o2
  go_wp2
  go_loopw [19] (fun i wr => ∃ x : Nat, x ≤ n ∧ i = .int .i64 x ∧ Hid (RowsL wr (b + 3) Z (.slice (some ⟨g0, 0, none⟩) n c0) (gridL n n F)) ∧ Hid (Ba wr 78 (b + 2) 100 (seenP G (x * n + 0))) ∧ Hid (Dist (x * n + 0) G) ∧ Hid (Below b w wr)) (fun i _ => n - (intOf i).toNat)
  case atStart => exact ⟨0, by omega, rfl, R4, A4, D0, B4⟩
  case round =>
    obtain ⟨x, hx, rfl, hR, hS, hD, hBl⟩ := hrel
    by_cases c : x < n
    · have k1 : decide (x < n) = true := by simpa using c
      have k1' : decide ((x : Int) < (n : Int)) = true := decide_eq_true (by omega)
      have wx3 := IntWalk.i64_in ((x : Int) + 1) (by omega)
      have x0 : (0 : Int) ≤ (x : Int) := by omega
      have x1 : (x : Int) < (n : Int) := by omega
      obtain ⟨g0', c0', g, cc, e0, d1, -, -, -, -, -⟩ := gridSet hR.out c (y := 0) (by omega)
      simp only [Value.slice.injEq, Option.some.injEq, Addr.mk.injEq] at e0
      obtain ⟨⟨rfl, -⟩, -, rfl⟩ := e0
      have CG := Lib.hid d1
      have gb := RowsL.base hR.out
      obtain ⟨wq, rfl⟩ : ∃ wq : World, wq = wr := ⟨_, rfl⟩
      go_wp2
      clear d1
      go_loopw [25] (fun i wr => ∃ y : Nat, y ≤ n ∧ i = .int .i64 y ∧ Hid (RowsL wr (b + 3) Z (.slice (some ⟨g0, 0, none⟩) n c0) (gridL n n F)) ∧ Hid (wr.cell? ⟨g0, x, none⟩ = some (.slice (some ⟨g, 0, none⟩) n cc)) ∧ Hid (Ba wr 78 (b + 2) 100 (seenP G (x * n + y))) ∧ Hid (Dist (x * n + y) G) ∧ Hid (Below b w wr)) (fun i _ => n - (intOf i).toNat)
      case atStart => exact ⟨0, by omega, rfl, hR, CG, hS, hD, hBl⟩
      case round =>
        obtain ⟨y, hy, rfl, hR2, hC2, hS2, hD2, hBl2⟩ := hrel
        by_cases c2 : y < n
        · have k2 : decide (y < n) = true := by simpa using c2
          have k2' : decide ((y : Int) < (n : Int)) = true := decide_eq_true (by omega)
          have wy4 := IntWalk.i64_in ((y : Int) + 1) (by omega)
          have y0 : (0 : Int) ≤ (y : Int) := by omega
          have y1 : (y : Int) < (n : Int) := by omega
          obtain ⟨g0', c0', g', cc', e0, d1, d2, -, -, -, -⟩ := gridSet hR2.out c c2
          simp only [Value.slice.injEq, Option.some.injEq, Addr.mk.injEq] at e0
          obtain ⟨⟨rfl, -⟩, -, rfl⟩ := e0
          rw [hC2.out] at d1
          simp only [Option.some.injEq, Value.slice.injEq, Addr.mk.injEq] at d1
          obtain ⟨⟨rfl, -⟩, -, rfl⟩ := d1
          have oi := OI.out x y c c2
          have ga := GA.out x y c2
          obtain ⟨z, hz⟩ : ∃ z, F x y = z := ⟨_, rfl⟩
          rw [hz] at oi ga d2
          obtain ⟨t, rfl⟩ : ∃ t : Nat, z = t := ⟨z.toNat, by omega⟩
          have tq : t < q := by omega
          have t0 : (0 : Int) ≤ (t : Int) := by omega
          have t1 : (t : Int) < 100 := by omega
          have ct := hS2.out.cell t (by omega)
          have fz := hS2.out.frozen t
          have mb := MB.out x y c c2
          clear hz oi
          obtain ⟨v, hb⟩ : ∃ v, seenP G (x * n + y) t = v := ⟨_, rfl⟩
          rw [hb] at ct
          cases v with
          | true =>
            have V2 := Lib.hid (NO.out (not_dist mb ga hb))
            clear hb ga mb
            go_wp2
            go_ret
            exact ⟨by rw [V.out, V2.out]; rfl, hBl2.out⟩
          | false =>
            have S5 : Hid (Ba (wr.setCell ⟨b + 2, t, none⟩ (.bool true)) 78 (b + 2) 100 (seenP G (x * n + (y + 1)))) := by
              have := hS2.out.set t true
              rwa [seenP_succ ga] at this
            have D5 : Hid (Dist (x * n + (y + 1)) G) := dist_succ hD2.out ga hb
            have B5 : Hid (Below b w (wr.setCell ⟨b + 2, t, none⟩ (.bool true))) := hBl2.out.setCell (p := ⟨b + 2, t, none⟩) (by simp only; omega) _
            have R5 : Hid (RowsL (wr.setCell ⟨b + 2, t, none⟩ (.bool true)) (b + 3) Z (.slice (some ⟨g0, 0, none⟩) n c0) (gridL n n F)) := hR2.out.far ⟨b + 2, t, none⟩ _ (by simp only; omega)
            have C5 : Hid ((wr.setCell ⟨b + 2, t, none⟩ (.bool true)).cell? ⟨g0, x, none⟩ = some (.slice (some ⟨g, 0, none⟩) n cc)) := by unfold Hid; rw [World.cell?_setCell_far _ _ _ _ (by simp only; omega)]; exact hC2.out
            clear hb ga mb
            go_wp2
            go_roundw
            case rel => exact ⟨y + 1, by omega, by go_num, R5, C5, S5, D5, B5⟩
            case measure => simp [intOf]; omega
        · have k2 : decide (y < n) = false := by simpa using c2
          have k2' : decide ((y : Int) < (n : Int)) = false := decide_eq_false (by omega)
          obtain rfl : y = n := by omega
          go_wp2
          go_roundw
          case rel => exact ⟨x + 1, by omega, by go_num, hR2, by unfold Hid; rw [MS.out]; exact hS2.out, by unfold Hid; rw [MS.out]; exact hD2.out, hBl2⟩
          case measure => simp [intOf]; omega
    · have k1 : decide (x < n) = false := by simpa using c
      have k1' : decide ((x : Int) < (n : Int)) = false := decide_eq_false (by omega)
      obtain rfl : x = n := by omega
      have V2 : Hid (distB q G = true) := YES.out (by have := hD.out; rwa [Nat.add_zero, MQ.out] at this)
      go_wp2
      go_ret
      exact ⟨by rw [V.out, V2.out]; rfl, hBl.out⟩
end Go.Proofs.Ytkonddifmonkcaa
