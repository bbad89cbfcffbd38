/- CyclicSquare: both sides. -/
import Derived.Test.YtkbkaphgieimoaaLsq
namespace Go.Proofs.Ytkbkaphgieimoaa
open Go.RowKit Go.Shelf
set_option linter.unusedVariables false

def cycF (n : Nat) : Nat → Nat → Int := fun x y => (((x + y) % n : Nat) : Int)
def CyclicSquare_0 (n : Int) : List (List Int) := if 1 ≤ n ∧ n ≤ 10 then gridL n.toNat n.toNat (cycF n.toNat) else []
def CyclicSquare_1 (n : Int) : Int := if 1 ≤ n ∧ n ≤ 10 then 0 else 2
theorem Cyclic_in {n : Int} (h : 1 ≤ n ∧ n ≤ 10) : CyclicSquare_0 n = gridL n.toNat n.toNat (cycF n.toNat) ∧ CyclicSquare_1 n = 0 := by unfold CyclicSquare_0 CyclicSquare_1; rw [if_pos h, if_pos h]; exact ⟨rfl, rfl⟩
theorem Cyclic_out {n : Int} (h : ¬ (1 ≤ n ∧ n ≤ 10)) : CyclicSquare_0 n = [] ∧ CyclicSquare_1 n = 2 := by unfold CyclicSquare_0 CyclicSquare_1; rw [if_neg h, if_neg h]; exact ⟨rfl, rfl⟩
theorem lenCyclicSquare_0 (n : Int) (hn : I64 n) : (CyclicSquare_0 n).length + tot (CyclicSquare_0 n) ≤ 2000000 := by
  by_cases h : 1 ≤ n ∧ n ≤ 10
  · rw [(Cyclic_in h).1, gridL_length, tot_gridL]
    have : n.toNat * n.toNat ≤ 10 * 10 := Nat.mul_le_mul (by omega) (by omega)
    omega
  · rw [(Cyclic_out h).1]; decide

set_option maxHeartbeats 1000000 in
theorem icycf (W : World) (b n : Nat) (h1 : 1 ≤ n) (h2 : n ≤ 10) (hb : W.cell? ⟨b, 0, none⟩ = some (.int .i64 n)) (x y : Nat) (hx : x < n) (hy : y < n) :
    Calls Try.prog 86 #[.int .i64 x, .int .i64 y, .pointer (some ⟨b, 0, none⟩)] W fun e W' => e = .returned (.int .i64 (cycF n x y)) ∧ W' = W := by
  have e : cycF n x y = (((x + y) % n : Nat) : Int) := rfl
  rw [e]
  have w1 := IntWalk.i64_in ((x : Int) + (y : Int)) (by omega)
  have hm : (x + y) % n < n := Nat.mod_lt _ (by omega)
  have w2 : IntKind.i64.wrap (((x : Int) + (y : Int)).tmod (n : Int)) = (((x + y) % n : Nat) : Int) := by
    rw [Int.tmod_eq_emod_of_nonneg (by omega), ← Int.natCast_add, ← Int.natCast_emod]
    exact IntWalk.i64_in _ (by omega)
  have pz : ((n : Int) == 0) = false := by simp; omega
  have pz' : (n == 0) = false := by simp; omega
  obtain ⟨z, hz⟩ : ∃ z, (x + y) % n = z := ⟨_, rfl⟩
  have HZ : Hid (((x : Int) + (y : Int)) % (n : Int) = (z : Int)) := by unfold Hid; rw [← hz, Int.natCast_emod, Int.natCast_add]
  rw [hz] at w2 ⊢
  clear hz e hm
  go_enter Try.func86, Try.ntmps86
  go_wp2
  go_ret
  exact ⟨ret_i _ _ HZ.out, rfl⟩

set_option maxRecDepth 100000 in
set_option maxHeartbeats 4000000 in
theorem iCyclicSquare (n : Int) (hn : I64 n) (w : World) :
    Calls Try.prog 36 #[.int .i64 n] w fun e w' => ∃ r, e = .returned (.tuple #[r, .int .i64 (CyclicSquare_1 n)]) ∧ RowsL w' w.heap.size w'.heap.size r (CyclicSquare_0 n) ∧ Below w.heap.size w w' := by
  have hmf : ∀ (fn : Fn) (first cap : Array Value) (w : World), (Instr.makeFunc fn first cap).run Try.prog w = .ok (.func fn first cap) w := fun _ _ _ _ => rfl
  by_cases h : 1 ≤ n ∧ n ≤ 10
  case neg =>
    have V := Lib.hid (Cyclic_out h)
    have B1 : Hid (Below w.heap.size w (w.alloc (.cells #[.int .i64 n] 2))) := (Below.refl _ _).alloc (Nat.le_refl _) _
    have NL : Hid (RowsL (w.alloc (.cells #[.int .i64 n] 2)) w.heap.size (w.alloc (.cells #[.int .i64 n] 2)).heap.size (.slice none 0 0) []) := RowsL.nil _ _ _ (Nat.le_refl _)
    by_cases c : n < 1
    · have t1 : decide (n < 1) = true := decide_eq_true c
      clear h c
      go_enter Try.func36, Try.ntmps36
      go_wp2
      go_ret2
      exact ⟨_, by rw [V.out.2]; rfl, by rw [V.out.1]; exact NL.out, B1.out⟩
    · have t1 : decide (n < 1) = false := decide_eq_false c
      have t2 : decide (10 < n) = true := decide_eq_true (by omega)
      clear h c
      go_enter Try.func36, Try.ntmps36
      go_wp2
      go_ret2
      exact ⟨_, by rw [V.out.2]; rfl, by rw [V.out.1]; exact NL.out, B1.out⟩
  have V := Lib.hid (Cyclic_in h)
  obtain ⟨m, rfl⟩ : ∃ m : Nat, n = m := ⟨n.toNat, by omega⟩
  rw [Int.toNat_natCast] at V
  have t1 : decide ((m : Int) < 1) = false := decide_eq_false (by omega)
  have t1' : decide (m < 1) = false := decide_eq_false (by omega)
  have t2 : decide ((10 : Int) < (m : Int)) = false := decide_eq_false (by omega)
  have t2' : decide (10 < m) = false := decide_eq_false (by omega)
  obtain ⟨b, hb⟩ : ∃ b, w.heap.size = b := ⟨_, rfl⟩
  have c1 : (w.alloc (.cells #[.int .i64 m] 2)).cell? ⟨b, 0, none⟩ = some (.int .i64 m) := by rw [cell_of_row _ b 0 _ _ _ (by rw [← hb]; exact heap_alloc_new _ _)]; rfl
  have b1 : Below b w (w.alloc (.cells #[.int .i64 m] 2)) := (Below.refl _ _).alloc (by omega) _
  have z1 : (w.alloc (.cells #[.int .i64 m] 2)).heap.size = b + 1 := by rw [World.size_alloc, hb]
  obtain ⟨w1, hw1⟩ : ∃ w1, w.alloc (.cells #[.int .i64 m] 2) = w1 := ⟨_, rfl⟩
  rw [hw1] at c1 b1 z1
  have HF := Lib.hid (ifill2 m (by omega) w1 (.func (.func 86) #[] #[.pointer (some ⟨b, 0, none⟩)]) (cycF m)
      ⟨_, _, _, rfl, enters_of Try.func86 (by kernel_rfl) rfl, fun W x y hW hx hy => icycf W b m (by omega) (by omega) ((hW.cell (p := ⟨b, 0, none⟩) (by simp only; omega)).trans c1) x y hx hy⟩)
  have B1 := Lib.hid b1
  have m10 : m ≤ 10 := by omega
  rw [hb]
  clear h b1
  go_enter Try.func36, Try.ntmps36
  go_wp2_with fail
  refine HF.out.mono ?_
  rintro e w2 ⟨rfl, b2⟩
  have B2 : Hid (Below b w w2) := B1.out.trans (b2.mono (by omega))
  have HR := Lib.hid (irows2 m m10 w2 (sqF m (cycF m)))
  have s2 := b2.size
  clear b2
  go_wp2_with fail
  refine HR.out.mono ?_
  rintro e w3 ⟨r, rfl, r3, b3⟩
  have s3 := b3.size
  have R3 := Lib.hid (r3.mono (B' := b) (by omega) (Nat.le_refl _) (Nat.le_refl _))
  have B3 : Hid (Below b w w3) := B2.out.trans (b3.mono (by omega))
  rw [gridL_sqF] at R3
  clear r3 b3
  go_wp2
  go_ret2
  exact ⟨_, by rw [V.out.2]; rfl, by rw [V.out.1]; exact R3.out, B3.out⟩

set_option maxRecDepth 100000 in
set_option maxHeartbeats 4000000 in
theorem sCyclic (n : Nat) (h1 : 1 ≤ n) (hn : n ≤ 10) (w : World) :
    Calls Try.prog 84 #[.int .i64 n] w fun e w' => ∃ r, e = .returned r ∧ RowsL w' w.heap.size w'.heap.size r (gridL n n (cycF n)) ∧ Below w.heap.size w w' := by
  have HZ := Lib.hid (sZero n n (by omega) (by omega) w)
  have FS : Hid (∀ x y, y < n → upd2 (fillF n (cycF n) x y) x y (cycF n x y) = fillF n (cycF n) x (y + 1)) := fun x y h => fillF_step _ h
  have FR : Hid (∀ x, fillF n (cycF n) x n = fillF n (cycF n) (x + 1) 0) := fun x => fillF_row n _ x
  have FA : Hid (gridL n n (fillF n (cycF n) n 0) = gridL n n (cycF n)) := by unfold Hid; rw [fillF_all, gridL_sqF]
  have F0 : Hid (gridL n n (fillF n (cycF n) 0 0) = gridL n n (fun _ _ => 0)) := by unfold Hid; rw [fillF_zero]
  have pz : ((n : Int) == 0) = false := by simp; omega
  have pz' : (n == 0) = false := by simp; omega
  go_enter Try.func84, Try.ntmps84
  go_wp2_with fail
  refine HZ.out.mono ?_
  rintro e w1 ⟨v, rfl, r1, b1⟩
  obtain ⟨g0, c0, rfl⟩ := r1.parts h1
  obtain ⟨B, hB⟩ : ∃ B, w.heap.size = B := ⟨_, rfl⟩
  obtain ⟨Z, hZ⟩ : ∃ Z, w1.heap.size = Z := ⟨_, rfl⟩
  rw [hB, hZ, ← F0.out] at r1
  rw [hB] at b1
  have R1 := Lib.hid r1
  have B1 := Lib.hid b1
  have HE := Lib.hid hB
  have z1 : Hid (w1.heap.size = Z) := hZ
  clear r1 b1 hB hZ HZ
  go_wp2
  go_loopw [4] (fun i wr => ∃ x : Nat, x ≤ n ∧ i = .int .i64 x ∧ Hid (RowsL wr B Z (.slice (some ⟨g0, 0, none⟩) n c0) (gridL n n (fillF n (cycF n) x 0))) ∧ Hid (Below B w wr) ∧ Hid (wr.heap.size = Z)) (fun i _ => n - (intOf i).toNat)
  case atStart => exact ⟨0, by omega, rfl, R1, B1, z1⟩
  case round =>
    obtain ⟨x, hx, rfl, hR, hBl, hz⟩ := hrel
    by_cases c : x < n
    · have k1 : decide (x < n) = true := by simpa using c
      have k1' : decide ((x : Int) < (n : Int)) = true := decide_eq_true (by omega)
      have w3 := IntWalk.i64_in ((x : Int) + 1) (by omega)
      have x0 : (0 : Int) ≤ (x : Int) := by omega
      have x1 : (x : Int) < (n : Int) := by omega
      obtain ⟨wq, rfl⟩ : ∃ wq : World, wq = wr := ⟨_, rfl⟩
      go_wp2
      go_loopw [5] (fun i wr => ∃ y : Nat, y ≤ n ∧ i = .int .i64 y ∧ Hid (RowsL wr B Z (.slice (some ⟨g0, 0, none⟩) n c0) (gridL n n (fillF n (cycF n) x y))) ∧ Hid (Below B w wr) ∧ Hid (wr.heap.size = Z)) (fun i _ => n - (intOf i).toNat)
      case atStart => exact ⟨0, by omega, rfl, hR, hBl, hz⟩
      case round =>
        obtain ⟨y, hy, rfl, hR2, hBl2, hz2⟩ := hrel
        by_cases c2 : y < n
        · have k2 : decide (y < n) = true := by simpa using c2
          have k2' : decide ((y : Int) < (n : Int)) = true := decide_eq_true (by omega)
          have w4 := IntWalk.i64_in ((y : Int) + 1) (by omega)
          have y0 : (0 : Int) ≤ (y : Int) := by omega
          have y1 : (y : Int) < (n : Int) := by omega
          have w5 := IntWalk.i64_in ((x : Int) + (y : Int)) (by omega)
          have eC : ((x : Int) + (y : Int)) % (n : Int) = cycF n x y := by unfold cycF; rw [Int.natCast_emod, Int.natCast_add]
          have cl : 0 ≤ cycF n x y ∧ cycF n x y < n := by unfold cycF; have := Nat.mod_lt (x + y) (show 0 < n by omega); omega
          have fs := FS.out x y c2
          obtain ⟨z, hzz⟩ : ∃ z, cycF n x y = z := ⟨_, rfl⟩
          rw [hzz] at eC fs cl
          have w6 := IntWalk.i64_in z (by omega)
          have e7 : ((x : Int) + (y : Int)).tmod (n : Int) = z := by rw [Int.tmod_eq_emod_of_nonneg (by omega), eC]
          have z1 : ¬ (n : Int) = 0 := by omega
          have z1' : ¬ n = 0 := by omega
          obtain ⟨wd, hwd⟩ : ∃ wd, wr.drew = wd := ⟨_, rfl⟩
          have hR3 : RowsL wd B Z (.slice (some ⟨g0, 0, none⟩) n c0) (gridL n n (fillF n (cycF n) x y)) := by rw [← hwd]; exact hR2.out
          have hB3 : Below B w wd := by rw [← hwd]; exact hBl2.out.drew
          have hz3 : wd.heap.size = Z := by rw [← hwd]; exact hz2.out
          obtain ⟨g0', c0', g, cc, e0, d1, d2, d3, d4, d5, d6⟩ := gridSet hR3 c c2
          simp only [Value.slice.injEq, Option.some.injEq, Addr.mk.injEq] at e0
          obtain ⟨⟨rfl, -⟩, -, rfl⟩ := e0
          have S1 : Hid (RowsL (wd.setCell ⟨g, y, none⟩ (.int .i64 z)) B Z (.slice (some ⟨g0, 0, none⟩) n c0) (gridL n n (fillF n (cycF n) x (y + 1)))) := by have := d6 z; rwa [fs] at this
          have S2 : Hid (Below B w (wd.setCell ⟨g, y, none⟩ (.int .i64 z))) := hB3.setCell (p := ⟨g, y, none⟩) d4 _
          have S3 : Hid ((wd.setCell ⟨g, y, none⟩ (.int .i64 z)).heap.size = Z) := by unfold Hid; rw [← hz3]; simp [World.setCell]
          clear hzz fs hR3 d6 hB3
          go_wp2
          refine wp_region_still_tail 11 (by kernel_rfl) (by kernel_rfl) ?_
          simp only [List.take_succ_cons, List.take_zero, List.drop_succ_cons, List.drop_zero]
          change wpStill _ _ wr.drew _ _ _
          rw [hwd]
          repeat still_step
          refine wpStill_nil ?_
          change wpList _ _ _ _ _ wr.drew
          rw [hwd]
          clear hwd
          go_wp2
          go_roundw
          case rel => exact ⟨y + 1, by omega, by go_num, S1, S2, S3⟩
          case measure => simp [intOf]; omega
        · have k2 : decide (y < n) = false := by simpa using c2
          have k2' : decide ((y : Int) < (n : Int)) = false := decide_eq_false (by omega)
          obtain rfl : y = n := by omega
          go_wp2
          go_roundw
          case rel => exact ⟨x + 1, by omega, by go_num, by unfold Hid; rw [← FR.out]; exact hR2.out, hBl2, hz2⟩
          case measure => simp [intOf]; omega
    · have k1 : decide (x < n) = false := by simpa using c
      have k1' : decide ((x : Int) < (n : Int)) = false := decide_eq_false (by omega)
      obtain rfl : x = n := by omega
      have hR' := hR.out
      rw [FA.out, ← hz.out] at hR'
      have RR := Lib.hid hR'
      clear hR'
      go_wp2
      go_ret
      exact ⟨_, rfl, by rw [HE.out]; exact RR.out, by rw [HE.out]; exact hBl.out⟩

set_option maxHeartbeats 1000000 in
theorem sCyclicSquare (n : Int) (hn : I64 n) (W : World) :
    Calls Try.prog 35 #[.int .i64 n] W fun e w' => ∃ r, e = .returned (.tuple #[r, .int .i64 (CyclicSquare_1 n)]) ∧ RowsAt w' r (CyclicSquare_0 n) ∧ Below W.heap.size W w' := by
  by_cases h : 1 ≤ n ∧ n ≤ 10
  · have V := Lib.hid (Cyclic_in h)
    have HI := Lib.hid (in_yes' n 1 10 W h.1 h.2)
    obtain ⟨m, rfl⟩ : ∃ m : Nat, n = m := ⟨n.toNat, by omega⟩
    rw [Int.toNat_natCast] at V
    have HC := Lib.hid (sCyclic m (by omega) (by omega) W)
    clear h
    go_enter Try.func35, Try.ntmps35
    go_wp2_with fail
    refine HI.out.mono ?_
    rintro e w1 ⟨rfl, rfl⟩
    go_wp2_with fail
    refine HC.out.mono ?_
    rintro e w2 ⟨r, rfl, r2, b2⟩
    have R2 := Lib.hid r2
    have B2 := Lib.hid b2
    clear r2 b2
    go_wp2
    go_ret2
    exact ⟨_, by rw [V.out.2]; rfl, by rw [V.out.1]; exact R2.out.at, B2.out⟩
  · have V := Lib.hid (Cyclic_out h)
    have HI := Lib.hid (in_no' n 1 10 W (by omega))
    clear h
    go_enter Try.func35, Try.ntmps35
    go_wp2_with fail
    refine HI.out.mono ?_
    rintro e w1 ⟨rfl, rfl⟩
    go_wp2
    go_ret2
    exact ⟨_, by rw [V.out.2]; rfl, by rw [V.out.1]; exact RowsAt.nil _ _ _, Below.refl _ _⟩
end Go.Proofs.Ytkbkaphgieimoaa
