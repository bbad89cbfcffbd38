/- A transversal with one more row: the program. -/
import Derived.Test.YtigcgpgkpkoodaaDoorVa
import Derived.StillTailTactics
import Derived.Deep.WholeRow
namespace Go.Proofs.YtigcgpgkpkoodaaDoor
open Go.RowKit
set_option linter.unusedVariables false

theorem ofInt_u32b (a : Nat) (ha : a < 4294967296) : (BitVec.ofInt 32 (a : Int)).toNat = a := by
  rw [BitVec.ofInt_natCast, BitVec.toNat_ofNat]; exact Nat.mod_eq_of_lt (by omega)
theorem u32_orb (a b : Nat) (ha : a < 4294967296) (hb : b < 4294967296) : bits .or .u32 (a : Int) (b : Int) = ((a ||| b : Nat) : Int) := by
  have hx : a ||| b < 2 ^ 32 := Nat.or_lt_two_pow (by omega) (by omega)
  show IntKind.u32.wrap ((BitVec.ofInt 32 (a : Int) ||| BitVec.ofInt 32 (b : Int)).toNat : Int) = _
  rw [BitVec.toNat_or, ofInt_u32b a ha, ofInt_u32b b hb, IntKind.wrap_u32]
  omega
theorem isingleb (t : Nat) (ht : t < 32) (W : World) : Calls Tryd.prog 70 #[.int .i64 t] W fun e w' => e = .returned (.int .u32 ((2 ^ t : Nat) : Int)) ∧ w' = W := by
  have tp : 2 ^ t < 4294967296 := by
    have : 2 ^ t < 2 ^ 32 := Nat.pow_lt_pow_right (by omega) ht
    omega
  have E : Hid ((2 : Int) ^ t % 4294967296 = ((2 ^ t : Nat) : Int)) := by
    have e1 : (2 : Int) ^ t = ((2 ^ t : Nat) : Int) := by rw [Int.natCast_pow]; rfl
    unfold Hid
    rw [e1]
    generalize 2 ^ t = y at tp
    omega
  clear tp
  go_enter Tryd.func70, Tryd.ntmps70
  go_wp2
  go_ret
  exact ⟨by rw [← E.out]; rfl, rfl⟩
theorem iunionb (x y : Nat) (w : World) (hx : x < 4294967296) (hy : y < 4294967296) :
    Calls Tryd.prog 42 #[.int .u32 x, .int .u32 y] w fun e w' => e = .returned (.int .u32 ((x ||| y : Nat) : Int)) ∧ w' = w := by
  have e1 := u32_orb x y hx hy
  obtain ⟨z, hz⟩ : ∃ z, x ||| y = z := ⟨_, rfl⟩
  rw [hz] at e1 ⊢
  clear hz hx hy
  go_enter Tryd.func42, Tryd.ntmps42
  go_wp2
  go_ret
  exact ⟨rfl, rfl⟩
theorem ibelow (n : Nat) (hn : n ≤ 10) (w : World) : Calls Tryd.prog 80 #[.int .i64 n] w fun e w' => e = .returned (.int .u32 ((2 ^ n - 1 : Nat) : Int)) ∧ w' = w := by
  have key : n = 0 ∨ n = 1 ∨ n = 2 ∨ n = 3 ∨ n = 4 ∨ n = 5 ∨ n = 6 ∨ n = 7 ∨ n = 8 ∨ n = 9 ∨ n = 10 := by omega
  rcases key with rfl | rfl | rfl | rfl | rfl | rfl | rfl | rfl | rfl | rfl | rfl <;>
  · go_enter Tryd.func80, Tryd.ntmps80
    go_wp2
    go_ret
    exact ⟨rfl, rfl⟩

/-- The cells of a transversal. -/
def tV (r : Nat) (c : Nat → Int) (uc us : Nat) : Nat → Value := fun i => if i = 0 then .int .i64 r else if i = 11 then .int .u32 uc else if i = 12 then .int .u32 us else .int .i64 (c i)
theorem tV_one (r : Nat) (c : Nat → Int) (uc us : Nat) (i : Nat) : (tV r c uc us i).oneCell' = true := by
  unfold tV
  split
  · rfl
  · split
    · rfl
    · split <;> rfl
def z13 : Array Value := #[.int .i64 0, .int .i64 0, .int .i64 0, .int .i64 0, .int .i64 0, .int .i64 0, .int .i64 0, .int .i64 0, .int .i64 0, .int .i64 0, .int .i64 0, .int .u32 0, .int .u32 0]
theorem zeroTr : z13 = var 13 (tV 0 (fun _ => 0) 0 0) := by kernel_rfl

end Go.Proofs.YtigcgpgkpkoodaaDoor
