/- A transversal with one more row: the program. -/
import Derived.Test.YtkonddifmonkcaaVa
import Derived.StillTailTactics
import Derived.Deep.WholeRow
namespace Go.Proofs.Ytkonddifmonkcaa
open Go.RowKit
set_option linter.unusedVariables false

theorem ofInt_u32b (a : Nat) (ha : a < 4294967296) : (BitVec.ofInt 32 (a : Int)).toNat = a := by
  rw [BitVec.ofInt_natCast, BitVec.toNat_ofNat]; exact Nat.mod_eq_of_lt (by omega)
theorem u32_orb (a b : Nat) (ha : a < 4294967296) (hb : b < 4294967296) : bits .or .u32 (a : Int) (b : Int) = ((a ||| b : Nat) : Int) := by
  have hx : a ||| b < 2 ^ 32 := Nat.or_lt_two_pow (by omega) (by omega)
  show IntKind.u32.wrap ((BitVec.ofInt 32 (a : Int) ||| BitVec.ofInt 32 (b : Int)).toNat : Int) = _
  rw [BitVec.toNat_or, ofInt_u32b a ha, ofInt_u32b b hb, IntKind.wrap_u32]
  omega
theorem isingleb (t : Nat) (ht : t < 32) (W : World) : Calls Try.prog 76 #[.int .i64 t] W fun e w' => e = .returned (.int .u32 ((2 ^ t : Nat) : Int)) ∧ w' = W := by
  have tp : 2 ^ t < 4294967296 := by
    have : 2 ^ t < 2 ^ 32 := Nat.pow_lt_pow_right (by omega) ht
    omega
  have E : Hid ((2 : Int) ^ t % 4294967296 = ((2 ^ t : Nat) : Int)) := by
    have e1 : (2 : Int) ^ t = ((2 ^ t : Nat) : Int) := by rw [Int.natCast_pow]; rfl
    unfold Hid
    rw [e1]
    generalize 2 ^ t = y at tp
    omega
  clear tp
  go_enter Try.func76, Try.ntmps76
  go_wp2
  go_ret
  exact ⟨by rw [← E.out]; rfl, rfl⟩
theorem iunionb (x y : Nat) (w : World) (hx : x < 4294967296) (hy : y < 4294967296) :
    Calls Try.prog 75 #[.int .u32 x, .int .u32 y] w fun e w' => e = .returned (.int .u32 ((x ||| y : Nat) : Int)) ∧ w' = w := by
  have e1 := u32_orb x y hx hy
  obtain ⟨z, hz⟩ : ∃ z, x ||| y = z := ⟨_, rfl⟩
  rw [hz] at e1 ⊢
  clear hz hx hy
  go_enter Try.func75, Try.ntmps75
  go_wp2
  go_ret
  exact ⟨rfl, rfl⟩
theorem ibelow (n : Nat) (hn : n ≤ 10) (w : World) : Calls Try.prog 55 #[.int .i64 n] w fun e w' => e = .returned (.int .u32 ((2 ^ n - 1 : Nat) : Int)) ∧ w' = w := by
  have key : n = 0 ∨ n = 1 ∨ n = 2 ∨ n = 3 ∨ n = 4 ∨ n = 5 ∨ n = 6 ∨ n = 7 ∨ n = 8 ∨ n = 9 ∨ n = 10 := by omega
  rcases key with rfl | rfl | rfl | rfl | rfl | rfl | rfl | rfl | rfl | rfl | rfl <;>
  · go_enter Try.func55, Try.ntmps55
    go_wp2
    go_ret
    exact ⟨rfl, rfl⟩

/-- The cells of a transversal. -/
def tV (r : Nat) (c : Nat → Int) (uc us : Nat) : Nat → Value := fun i => if i = 0 then .int .i64 r else if i = 11 then .int .u32 uc else if i = 12 then .int .u32 us else .int .i64 (c i)
theorem tV_one (r : Nat) (c : Nat → Int) (uc us : Nat) (i : Nat) : (tV r c uc us i).oneCell' = true := by
  unfold tV
  split
  · rfl
  · split
    · rfl
    · split <;> rfl
theorem Try.infoTr : (Try.prog.info? 59).map (·.size) = some 13 := by kernel_rfl
def z13 : Array Value := #[.int .i64 0, .int .i64 0, .int .i64 0, .int .i64 0, .int .i64 0, .int .i64 0, .int .i64 0, .int .i64 0, .int .i64 0, .int .i64 0, .int .i64 0, .int .u32 0, .int .u32 0]
theorem zeroTr : z13 = var 13 (tV 0 (fun _ => 0) 0 0) := by kernel_rfl

set_option maxRecDepth 100000 in
set_option maxHeartbeats 4000000 in
theorem iwith (r : Nat) (hr : r < 10) (c : Nat → Int) (uc us cc ss : Nat) (hcc : cc < 32) (hss : ss < 32) (huc : uc < 4294967296) (hus : us < 4294967296) (w : World) :
    Calls Try.prog 54 #[.agg (var 13 (tV r c uc us)), .int .i64 cc, .int .i64 ss] w fun e w' => e = .returned (.agg (var 13 (tV (r + 1) (updI c (1 + r) cc) (uc ||| 2 ^ cc) (us ||| 2 ^ ss)))) ∧ Below w.heap.size w w' := by
  obtain ⟨b, hb⟩ : ∃ b, w.heap.size = b := ⟨_, rfl⟩
  have q1 : (w.alloc (.cells (var 13 (tV r c uc us)) 59)).heap.size = b + 1 := by rw [World.size_alloc, hb]
  have b1 : Below b w (w.alloc (.cells (var 13 (tV r c uc us)) 59)) := (Below.refl _ _).alloc (by omega) _
  have A1 : Va (w.alloc (.cells (var 13 (tV r c uc us)) 59)) 59 b 13 (tV r c uc us) := by unfold Va; rw [← hb]; exact heap_alloc_new _ _
  obtain ⟨w1, hw1⟩ : ∃ w1, w.alloc (.cells (var 13 (tV r c uc us)) 59) = w1 := ⟨_, rfl⟩
  rw [hw1] at q1 b1 A1
  have q2 : (w1.alloc (.cells z13 59)).heap.size = b + 2 := by rw [World.size_alloc, q1]
  have b2 : Below b w (w1.alloc (.cells z13 59)) := b1.alloc (by omega) _
  have A2 : Va (w1.alloc (.cells z13 59)) 59 b 13 (tV r c uc us) := (heap_alloc_old _ _ (by omega)).trans A1
  have C2 : Va (w1.alloc (.cells z13 59)) 59 (b + 1) 13 (tV 0 (fun _ => 0) 0 0) := by unfold Va; rw [← q1, heap_alloc_new, zeroTr]
  obtain ⟨w2, hw2⟩ : ∃ w2, w1.alloc (.cells z13 59) = w2 := ⟨_, rfl⟩
  rw [hw2] at q2 b2 A2 C2
  -- the column, the number of rows
  have c0 : w2.cell? ⟨b, 0, none⟩ = some (.int .i64 r) := A2.cell 0 (by omega)
  have c1 : w2.cell? ⟨b, 1 + r, none⟩ = some (tV r c uc us (1 + r)) := A2.cell (1 + r) (by omega)
  have f1 := A2.frozen (1 + r)
  have A3 : Va (w2.setCell ⟨b, 1 + r, none⟩ (.int .i64 cc)) 59 b 13 (updV (tV r c uc us) (1 + r) (.int .i64 cc)) := A2.set _ _
  have C3 : Va (w2.setCell ⟨b, 1 + r, none⟩ (.int .i64 cc)) 59 (b + 1) 13 (tV 0 (fun _ => 0) 0 0) := (Below.heap_setCell w2 ⟨b, 1 + r, none⟩ _ (b + 1) (by simp only; omega)).trans C2
  have b3 : Below b w (w2.setCell ⟨b, 1 + r, none⟩ (.int .i64 cc)) := b2.setCell (p := ⟨b, 1 + r, none⟩) (Nat.le_refl _) _
  have A3' : Va (w2.setCell ⟨b, 1 + r, none⟩ (.int .i64 cc)) 59 b 13 (tV r (updI c (1 + r) cc) uc us) := A3.congr (fun i hi => by
    unfold updV tV updI
    by_cases e : i = 1 + r
    · rw [if_pos e, if_neg (by omega), if_neg (by omega), if_neg (by omega), if_pos e]
    · rw [if_neg e, if_neg e])
  obtain ⟨d, hd⟩ : ∃ d, updI c (1 + r) cc = d := ⟨_, rfl⟩
  rw [hd] at A3' ⊢
  obtain ⟨w3, hw3⟩ : ∃ w3, w2.setCell ⟨b, 1 + r, none⟩ (.int .i64 cc) = w3 := ⟨_, rfl⟩
  rw [hw3] at A3' C3 b3
  have d0 : w3.cell? ⟨b, 0, none⟩ = some (.int .i64 r) := A3'.cell 0 (by omega)
  have g0 := A3'.frozen 0
  have A4 : Va (w3.setCell ⟨b, 0, none⟩ (.int .i64 ((r : Int) + 1))) 59 b 13 (tV (r + 1) d uc us) := (A3'.set 0 _).congr (fun i hi => by
    unfold updV tV
    by_cases e : i = 0
    · rw [if_pos e, if_pos e]; exact congrArg (Value.int .i64) (by omega)
    · rw [if_neg e, if_neg e, if_neg e])
  have C4 : Va (w3.setCell ⟨b, 0, none⟩ (.int .i64 ((r : Int) + 1))) 59 (b + 1) 13 (tV 0 (fun _ => 0) 0 0) := (Below.heap_setCell w3 ⟨b, 0, none⟩ _ (b + 1) (by simp only; omega)).trans C3
  have b4 : Below b w (w3.setCell ⟨b, 0, none⟩ (.int .i64 ((r : Int) + 1))) := b3.setCell (p := ⟨b, 0, none⟩) (Nat.le_refl _) _
  obtain ⟨w4, hw4⟩ : ∃ w4, w3.setCell ⟨b, 0, none⟩ (.int .i64 ((r : Int) + 1)) = w4 := ⟨_, rfl⟩
  rw [hw4] at A4 C4 b4
  -- the sets
  have tp1 : 2 ^ cc < 4294967296 := by have : 2 ^ cc < 2 ^ 32 := Nat.pow_lt_pow_right (by omega) hcc; omega
  have tp2 : 2 ^ ss < 4294967296 := by have : 2 ^ ss < 2 ^ 32 := Nat.pow_lt_pow_right (by omega) hss; omega
  have S1 := Lib.hid (fun W => isingleb cc hcc W)
  have S2 := Lib.hid (fun W => isingleb ss hss W)
  have U1 := Lib.hid (fun W => iunionb uc (2 ^ cc) W huc tp1)
  have U2 := Lib.hid (fun W => iunionb us (2 ^ ss) W hus tp2)
  obtain ⟨p1, hp1⟩ : ∃ p, 2 ^ cc = p := ⟨_, rfl⟩
  obtain ⟨p2, hp2⟩ : ∃ p, 2 ^ ss = p := ⟨_, rfl⟩
  rw [hp1] at S1 U1 ⊢
  rw [hp2] at S2 U2 ⊢
  obtain ⟨z1, hz1⟩ : ∃ z, uc ||| p1 = z := ⟨_, rfl⟩
  obtain ⟨z2, hz2⟩ : ∃ z, us ||| p2 = z := ⟨_, rfl⟩
  rw [hz1] at U1 ⊢
  rw [hz2] at U2 ⊢
  have e4 : w4.drew.cell? ⟨b, 11, none⟩ = some (.int .u32 uc) := A4.cell 11 (by omega)
  have h4 : w4.drew.frozen? ⟨b, 11, none⟩ = false := A4.frozen 11
  have A5 : Va (w4.drew.setCell ⟨b, 11, none⟩ (.int .u32 z1)) 59 b 13 (tV (r + 1) d z1 us) := (Va.set (w := w4.drew) A4 11 _).congr (fun i hi => by
    unfold updV tV
    by_cases e : i = 11
    · rw [if_pos e, if_neg (by omega), if_pos e]
    · rw [if_neg e, if_neg e, if_neg e])
  have C5 : Va (w4.drew.setCell ⟨b, 11, none⟩ (.int .u32 z1)) 59 (b + 1) 13 (tV 0 (fun _ => 0) 0 0) := (Below.heap_setCell w4.drew ⟨b, 11, none⟩ _ (b + 1) (by simp only; omega)).trans C4
  have b5 : Below b w (w4.drew.setCell ⟨b, 11, none⟩ (.int .u32 z1)) := b4.drew.setCell (p := ⟨b, 11, none⟩) (Nat.le_refl _) _
  obtain ⟨w5, hw5⟩ : ∃ w5, w4.drew.setCell ⟨b, 11, none⟩ (.int .u32 z1) = w5 := ⟨_, rfl⟩
  rw [hw5] at A5 C5 b5
  have e5 : w5.drew.cell? ⟨b, 12, none⟩ = some (.int .u32 us) := A5.cell 12 (by omega)
  have h5 : w5.drew.frozen? ⟨b, 12, none⟩ = false := A5.frozen 12
  have A6 : Va (w5.drew.setCell ⟨b, 12, none⟩ (.int .u32 z2)) 59 b 13 (tV (r + 1) d z1 z2) := (Va.set (w := w5.drew) A5 12 _).congr (fun i hi => by
    unfold updV tV
    by_cases e : i = 12
    · rw [if_pos e, if_neg (by omega), if_neg (by omega), if_pos e]
    · rw [if_neg e, if_neg e, if_neg e])
  have C6 : Va (w5.drew.setCell ⟨b, 12, none⟩ (.int .u32 z2)) 59 (b + 1) 13 (tV 0 (fun _ => 0) 0 0) := (Below.heap_setCell w5.drew ⟨b, 12, none⟩ _ (b + 1) (by simp only; omega)).trans C5
  have b6 : Below b w (w5.drew.setCell ⟨b, 12, none⟩ (.int .u32 z2)) := b5.drew.setCell (p := ⟨b, 12, none⟩) (Nat.le_refl _) _
  obtain ⟨w6, hw6⟩ : ∃ w6, w5.drew.setCell ⟨b, 12, none⟩ (.int .u32 z2) = w6 := ⟨_, rfl⟩
  rw [hw6] at A6 C6 b6
  have st := Va.stores (U := tV (r + 1) d z1 z2) C6 Try.infoTr (fun i _ => tV_one _ _ _ _ i)
  have P7 := Lib.hid (Va.row (U := tV (r + 1) d z1 z2) C6)
  have P8 : Hid (Below b w (w6.setRow (b + 1) (var 13 (tV (r + 1) d z1 z2)))) := below_row b6 (by omega) _
  have X6 := Lib.hid A6
  obtain ⟨X, hX⟩ : ∃ X, var 13 (tV (r + 1) d z1 z2) = X := ⟨_, rfl⟩
  have hXs : X.size = 13 := by rw [← hX, var_size]
  unfold Va at P7 X6
  have hz13 : z13 = #[.int .i64 0, .int .i64 0, .int .i64 0, .int .i64 0, .int .i64 0, .int .i64 0, .int .i64 0, .int .i64 0, .int .i64 0, .int .i64 0, .int .i64 0, .int .u32 0, .int .u32 0] := rfl
  rw [hz13] at hw2
  clear hz13
  rw [hX] at st P7 P8 X6 ⊢
  obtain ⟨Y, hY⟩ : ∃ Y, var 13 (tV r c uc us) = Y := ⟨_, rfl⟩
  rw [hY] at hw1 ⊢
  have r0 : (0 : Int) ≤ (r : Int) := by omega
  have r1 : (r : Int) < 10 := by omega
  have wr1 := IntWalk.i64_in ((r : Int) + 1) (by omega)
  rw [hb]
  clear A1 A2 C2 A3 C3 A3' A4 C4 A5 C5 A6 C6 b1 b2 b3 b4 b5 b6 hd hX hY hp1 hp2 hz1 hz2 tp1 tp2
  go_enter Try.func54, Try.ntmps54
  go_wp2
  refine wp_region_still_tail 6 (by kernel_rfl) (by kernel_rfl) ?_
  simp only [List.take_succ_cons, List.take_zero, List.drop_succ_cons, List.drop_zero]
  still_step
  still_step
  still_step
  still_call (S1.out _)
  still_call (U1.out _)
  still_step
  refine wpStill_nil ?_
  go_wp2
  refine wp_region_still_tail 6 (by kernel_rfl) (by kernel_rfl) ?_
  simp only [List.take_succ_cons, List.take_zero, List.drop_succ_cons, List.drop_zero]
  still_step
  still_step
  still_step
  still_call (S2.out _)
  still_call (U2.out _)
  still_step
  refine wpStill_nil ?_
  go_wp2_with (refine wpList_load_row rfl 59 (.tmp 3) rfl _ rfl _ _ _ _ X6.out Try.underlying59 rfl (by rw [hXs]; exact Try.infoTr) ?_)
  refine bodyPost_ret (v := .agg X) (results_cell_row Try.results54 _ _ _ _ _ _ _ rfl P7.out Try.underlying59 rfl (by rw [hXs]; exact Try.infoTr)) rfl ⟨rfl, P8.out⟩
end Go.Proofs.Ytkonddifmonkcaa
