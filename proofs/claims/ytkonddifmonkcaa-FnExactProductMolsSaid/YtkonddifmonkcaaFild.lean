/- filledSquare with a function that draws. -/
import Derived.Test.YtkonddifmonkcaaLsq
import Derived.Deep.RegionHeld3
namespace Go.Proofs.Ytkonddifmonkcaa
open Go.RowKit
set_option linter.unusedVariables false

/-- What a function on rows and columns answers, reading what lies below B, in whatever order. -/
def SymOkB (w : World) (B : Nat) (s : Value) (n : Nat) (f : Nat → Nat → Int) : Prop :=
  ∃ fn fs cs, s = .func (.func fn) fs cs ∧ (∀ args W, (callFunc fn args).run Try.prog W = .ok (.enter fn args) W) ∧ ∀ (W : World) (x y : Nat), Below B w W → x < n → y < n → Calls Try.prog fn (fs ++ (#[.int .i64 x, .int .i64 y] ++ cs)) W fun e W' => e = .returned (.int .i64 (f x y)) ∧ Below W.heap.size W W'

set_option maxRecDepth 100000 in
set_option maxHeartbeats 4000000 in
theorem ifilld (n : Nat) (hn : n ≤ 10) (w : World) (s : Value) (f : Nat → Nat → Int) (hs : SymOkB w w.heap.size s n f) :
    Calls Try.prog 58 #[.int .i64 n, s] w fun e w' => e = .returned (sqV n (sqF n f)) ∧ Below w.heap.size w w' := by
  obtain ⟨fn, fs, cs, rfl, hcf, hc⟩ := hs
  have HS := Lib.hid hc
  obtain ⟨b, hb⟩ : ∃ b, w.heap.size = b := ⟨_, rfl⟩
  obtain ⟨w1, hw1⟩ : ∃ w1, w.alloc (.cells Try.zeroCells46 46) = w1 := ⟨_, rfl⟩
  have b1 : Below b w w1 := by rw [← hw1]; exact (Below.refl _ _).alloc (by omega) _
  have z1 : w1.heap.size = b + 1 := by rw [← hw1, World.size_alloc, hb]
  have A1 : SqAt w1 b 0 (fun _ _ => 0) := by unfold SqAt Ia; rw [← sqC_zeros, ← hw1, ← hb, heap_alloc_new, zeroSq]
  have st := stores_newSq w1 (sqC n (fun _ _ => 0))
  rw [← sq_build, z1] at st
  have A2 : SqAt (w1.alloc (.cells (iar 101 (sqC n (fun _ _ => 0))) 46)) (b + 1) n (fun _ _ => 0) := by unfold SqAt Ia; rw [← z1]; exact heap_alloc_new _ _
  have b2 : Below b w (w1.alloc (.cells (iar 101 (sqC n (fun _ _ => 0))) 46)) := b1.alloc (by omega) _
  have A3 : SqAt (w1.alloc (.cells (iar 101 (sqC n (fun _ _ => 0))) 46)) b 0 (fun _ _ => 0) := (heap_alloc_old _ _ (by omega)).trans A1
  obtain ⟨w2, hw2⟩ : ∃ w2, w1.alloc (.cells (iar 101 (sqC n (fun _ _ => 0))) 46) = w2 := ⟨_, rfl⟩
  rw [hw2] at st A2 b2 A3
  rw [hb] at HS ⊢
  rw [← fillF_zero n f] at A2
  have HB := Lib.hid hb
  have H2 := Lib.hid A2
  have H3 := Lib.hid A3
  have HB2 := Lib.hid b2
  have FS : Hid (∀ x y, y < n → upd2 (fillF n f x y) x y (f x y) = fillF n f x (y + 1)) := fun x y h => fillF_step f h
  have FR : Hid (∀ x, fillF n f x n = fillF n f (x + 1) 0) := fun x => fillF_row n f x
  have FA : Hid (fillF n f n 0 = sqF n f) := fillF_all n f
  clear hc A1 A2 A3 b1 b2
  go_enter Try.func58, Try.ntmps58
  go_wp2
  clear st hw1 hw2
  go_loopw [11] (fun i wr => ∃ x : Nat, x ≤ n ∧ i = .int .i64 x ∧ Hid (SqAt wr (b + 1) n (fillF n f x 0)) ∧ Hid (SqAt wr b 0 (fun _ _ => 0)) ∧ Hid (Below b w wr)) (fun i _ => n - (intOf i).toNat)
  case atStart => exact ⟨0, by omega, rfl, H2, H3, HB2⟩
  case round =>
    obtain ⟨x, hx, rfl, hA, hZ, hBl⟩ := hrel
    by_cases c : x < n
    · have k1 : decide (x < n) = true := by simpa using c
      have k1' : decide ((x : Int) < (n : Int)) = true := decide_eq_true (by omega)
      have w3 := IntWalk.i64_in ((x : Int) + 1) (by omega)
      have x0 : (0 : Int) ≤ (x : Int) := by omega
      have x1 : (x : Int) < 10 := by omega
      obtain ⟨wq, rfl⟩ : ∃ wq : World, wq = wr := ⟨_, rfl⟩
      go_wp2
      go_loopw [15] (fun i wr => ∃ y : Nat, y ≤ n ∧ i = .int .i64 y ∧ Hid (SqAt wr (b + 1) n (fillF n f x y)) ∧ Hid (SqAt wr b 0 (fun _ _ => 0)) ∧ Hid (Below b w wr)) (fun i _ => n - (intOf i).toNat)
      case atStart => exact ⟨0, by omega, rfl, hA, hZ, hBl⟩
      case round =>
        obtain ⟨y, hy, rfl, hA2, hZ2, hBl2⟩ := hrel
        by_cases c2 : y < n
        · have k2 : decide (y < n) = true := by simpa using c2
          have k2' : decide ((y : Int) < (n : Int)) = true := decide_eq_true (by omega)
          have w4 := IntWalk.i64_in ((y : Int) + 1) (by omega)
          have y0 : (0 : Int) ≤ (y : Int) := by omega
          have y1 : (y : Int) < 10 := by omega
          have HC := Lib.hid (fun W h => HS.out W x y h c c2)
          go_wp2
          have HC2 := Lib.hid (HC.out wr.drew hBl2.out.drew)
          have hA3 : Hid (SqAt wr.drew (b + 1) n (fillF n f x y)) := hA2.out
          have hZ3 : Hid (SqAt wr.drew b 0 (fun _ _ => 0)) := hZ2.out
          have hB3 : Hid (Below b w wr.drew) := hBl2.out.drew
          have KEY : Hid (∀ w4, Below wr.drew.heap.size wr.drew w4 → (∃ old, w4.cell? ⟨b + 1, 1 + x * 10 + y, none⟩ = some old) ∧ w4.frozen? ⟨b + 1, 1 + x * 10 + y, none⟩ = false ∧ SqAt (w4.setCell ⟨b + 1, 1 + x * 10 + y, none⟩ (.int .i64 (f x y))) (b + 1) n (fillF n f x (y + 1)) ∧
              SqAt (w4.setCell ⟨b + 1, 1 + x * 10 + y, none⟩ (.int .i64 (f x y))) b 0 (fun _ _ => 0) ∧ Below b w (w4.setCell ⟨b + 1, 1 + x * 10 + y, none⟩ (.int .i64 (f x y)))) := fun w4 b4 => by
            have lt := Ia.lt hA3.out
            have D1 : SqAt w4 (b + 1) n (fillF n f x y) := Ia.below hA3.out b4 lt
            have D2 : SqAt w4 b 0 (fun _ _ => 0) := Ia.below hZ3.out b4 (Ia.lt hZ3.out)
            have D3 : Below b w w4 := hB3.out.trans (b4.mono (by omega))
            refine ⟨⟨_, Ia.cell D1 (1 + x * 10 + y) (by omega)⟩, Ia.frozen D1 _, ?_, (Below.heap_setCell w4 ⟨b + 1, 1 + x * 10 + y, none⟩ _ b (by simp only; omega)).trans D2, D3.setCell (p := ⟨b + 1, 1 + x * 10 + y, none⟩) (by simp only; omega) _⟩
            have := Ia.set D1 (1 + x * 10 + y) (f x y)
            rw [sqC_upd _ _ _ (by omega), FS.out x y c2] at this
            exact this
          obtain ⟨fxy, hfxy⟩ : ∃ z, f x y = z := ⟨_, rfl⟩
          rw [hfxy] at HC2 KEY
          clear HC hfxy
          go_region_held3 (fun _ => True) (first | trivial)
            (first | (refine (HC2.out).mono ?_; rintro e w4 ⟨rfl, b4⟩; obtain ⟨⟨old, f2⟩, f3, f5, f6, f7⟩ := KEY.out w4 b4; have S1 := Lib.hid f5; have S2 := Lib.hid f6; have S3 := Lib.hid f7; clear f5 f6 f7 b4))
          go_wp2
          go_roundw
          case rel => exact ⟨y + 1, by omega, by go_num, S1, S2, S3⟩
          case measure => simp [intOf]; omega
        · have k2 : decide (y < n) = false := by simpa using c2
          have k2' : decide ((y : Int) < (n : Int)) = false := decide_eq_false (by omega)
          obtain rfl : y = n := by omega
          go_wp2
          go_roundw
          case rel => exact ⟨x + 1, by omega, by go_num, by unfold Hid; rw [← FR.out]; exact hA2.out, hZ2, hBl2⟩
          case measure => simp [intOf]; omega
    · have k1 : decide (x < n) = false := by simpa using c
      have k1' : decide ((x : Int) < (n : Int)) = false := decide_eq_false (by omega)
      obtain rfl : x = n := by omega
      have hA' := hA.out
      rw [FA.out] at hA'
      have HA := Lib.hid hA'
      have P2 : Hid (SqAt (wr.setRow b (iar 101 (sqC x (sqF x f)))) b x (sqF x f)) := setRow_heap _ _ _ _ _ _ hZ.out
      clear hA'
      go_upto_region 11 with fail
      refine wp_region_list ?_
      refine wpList_load_row rfl 46 (.tmp 5) rfl _ rfl _ _ _ _ HA.out Try.underlying46 rfl (by rw [iar_size]; exact Try.infoSq) ?_
      refine wpList_store_row rfl 46 (.tmp 4) (.tmp 29) rfl _ (iar 101 (sqC x (sqF x f))) rfl rfl _ _ hZ.out (by rw [iar_size]; exact Try.infoSq) (by rw [iar_size, iar_size]) (iar_one _ _) ?_
      go_wp2
      refine bodyPost_ret (v := sqV x (sqF x f)) (results_cell_row Try.results58 _ _ _ _ _ _ _ rfl P2.out Try.underlying46 rfl (by rw [iar_size]; exact Try.infoSq)) rfl ⟨rfl, ?_⟩
      exact below_row hBl.out (Nat.le_refl _) _
theorem ifilld2 (n : Nat) (hn : n ≤ 10) (w : World) (s : Value) (f : Nat → Nat → Int) (hs : SymOkB w w.heap.size s n f) :
    Calls Try.prog 58 #[.int .i64 n, s] w fun e w' => e = .returned (.agg (iar 101 (sqC n (sqF n f)))) ∧ Below w.heap.size w w' := ifilld n hn w s f hs
end Go.Proofs.Ytkonddifmonkcaa
