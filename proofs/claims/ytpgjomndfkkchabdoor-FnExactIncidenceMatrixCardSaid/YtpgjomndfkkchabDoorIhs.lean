/- A set of indices has one. -/
import Derived.Test.YtpgjomndfkkchabDoorWb
namespace Go.Proofs.YtpgjomndfkkchabDoor
open Go.RowKit Go.Shelf
set_option linter.unusedVariables false

theorem and_one_bit (v r : Nat) : (((v / 2 ^ r &&& 1 : Nat) : Int) != 0) = v.testBit r := by
  rw [Nat.and_one_is_mod, Nat.testBit_eq_decide_div_mod_eq]
  obtain ⟨y, hy⟩ : ∃ y, v / 2 ^ r % 2 = y := ⟨_, rfl⟩
  rw [hy]
  rcases (by omega : y = 0 ∨ y = 1) with h | h <;> subst h <;> rfl

set_option maxRecDepth 100000 in
set_option maxHeartbeats 1000000 in
theorem ihas (c : Nat → Nat) (i : Nat) (w : World) (hi : i < 128) (h0 : c 0 < 18446744073709551616) (h1 : c 1 < 18446744073709551616) :
    Calls Tryd.prog 58 #[.agg #[.int .u64 (c 0 : Nat), .int .u64 (c 1 : Nat)], .int .i64 (i : Int)] w fun e w' => e = .returned (.bool ((c (i / 64)).testBit (i % 64))) ∧ Below w.heap.size w w' := by
  obtain ⟨q, hq⟩ : ∃ q, i / 64 = q := ⟨_, rfl⟩
  obtain ⟨r, hr⟩ : ∃ r, i % 64 = r := ⟨_, rfl⟩
  have e1 : (i : Int).tdiv 64 = (q : Int) := by rw [Int.tdiv_eq_ediv_of_nonneg (by omega)]; omega
  have e2 : (i : Int) / 64 = (q : Int) := by omega
  have e3 : (i : Int).tmod 64 = (r : Int) := by rw [Int.tmod_eq_emod_of_nonneg (by omega)]; omega
  have e4 : (i : Int) % 64 = (r : Int) := by omega
  have q1 : q < 2 := by omega
  have r1 : r < 64 := by omega
  rw [hq, hr]
  have hp : 2 ^ r < 18446744073709551616 := Nat.pow_lt_pow_right (a := 2) (m := r) (n := 64) (by omega) r1
  obtain ⟨B, hB⟩ : ∃ B, w.heap.size = B := ⟨_, rfl⟩
  obtain ⟨w1, hw1⟩ : ∃ w1, w.alloc (.cells #[.int .u64 (c 0 : Nat), .int .u64 (c 1 : Nat)] 64) = w1 := ⟨_, rfl⟩
  have A1 : w1.heap[B]? = some (.cells #[.int .u64 (c 0 : Nat), .int .u64 (c 1 : Nat)] 64 (0, 0)) := by rw [← hw1, ← hB]; exact heap_alloc_new _ _
  have b1 : Hid (Below B w w1) := by unfold Hid; rw [← hw1]; exact (Below.refl _ _).alloc (by omega) _
  obtain ⟨v, hv⟩ : ∃ v, c q = v := ⟨_, rfl⟩
  have m1 : w1.cell? ⟨B, q, none⟩ = some (.int .u64 (v : Int)) := by
    rw [cell_of_row w1 B q _ _ _ A1]
    rcases (by omega : q = 0 ∨ q = 1) with h | h <;> subst h <;> rw [← hv] <;> rfl
  have hc : v < 18446744073709551616 := by
    rcases (by omega : q = 0 ∨ q = 1) with h | h <;> subst h <;> rw [← hv] <;> assumption
  rw [hv]
  have hd : v / 2 ^ r < 18446744073709551616 := Nat.lt_of_le_of_lt (Nat.div_le_self _ _) hc
  have ED : Hid ((v : Int) / (2 : Int) ^ r = ((v / 2 ^ r : Nat) : Int)) := by unfold Hid; rw [Int.natCast_ediv, Int.natCast_pow]; rfl
  have EA : Hid (bits .and .u64 ((v / 2 ^ r : Nat) : Int) 1 = ((v / 2 ^ r &&& 1 : Nat) : Int)) := u64_and (v / 2 ^ r) 1 hd (by omega)
  have EB := Lib.hid (and_one_bit v r)
  have wq := IntWalk.i64_in (q : Int) (by omega)
  have wr := IntWalk.i64_in (r : Int) (by omega)
  have ur : IntKind.u64.wrap (r : Int) = (r : Int) := by rw [IntKind.wrap_u64]; omega
  have q0 : (0 : Int) ≤ (q : Int) := by omega
  have q2 : (q : Int) < 2 := by omega
  have r0 : (0 : Int) ≤ (r : Int) := by omega
  have r2 : (r : Int) < 64 := by omega
  clear hq hr hp hv hc A1 h0 h1 hd
  go_enter Tryd.func58, Tryd.ntmps58
  go_wp2
  try rw [hw1]
  go_ret
  exact ⟨by rw [ED.out, EA.out, EB.out]; rfl, by rw [hB]; exact b1.out⟩
end Go.Proofs.YtpgjomndfkkchabDoor
