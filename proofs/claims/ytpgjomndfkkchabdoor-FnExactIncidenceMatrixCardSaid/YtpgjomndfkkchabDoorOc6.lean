/- How many bits of a word are set, by the program: math/bits.OnesCount64. -/
import Derived.Test.YtpgjomndfkkchabDoorOcm
import Derived.WalkLawsBesides
import Derived.Deep.Cut
namespace Go.Proofs.YtpgjomndfkkchabDoor
open Go.RowKit
set_option linter.unusedVariables false

theorem u64_ofInt (a : Nat) (ha : a < 18446744073709551616) : (BitVec.ofInt 64 (a : Int)).toNat = a := by
  rw [BitVec.ofInt_natCast, BitVec.toNat_ofNat]; exact Nat.mod_eq_of_lt (by omega)
theorem u64_and (a b : Nat) (ha : a < 18446744073709551616) (hb : b < 18446744073709551616) : bits .and .u64 (a : Int) (b : Int) = ((a &&& b : Nat) : Int) := by
  have hx : a &&& b ≤ a := Nat.and_le_left
  show IntKind.u64.wrap ((BitVec.ofInt 64 (a : Int) &&& BitVec.ofInt 64 (b : Int)).toNat : Int) = _
  rw [BitVec.toNat_and, u64_ofInt a ha, u64_ofInt b hb, IntKind.wrap_u64]
  omega
theorem u64_or (a b : Nat) (ha : a < 18446744073709551616) (hb : b < 18446744073709551616) : bits .or .u64 (a : Int) (b : Int) = ((a ||| b : Nat) : Int) := by
  have hx : a ||| b < 2 ^ 64 := Nat.or_lt_two_pow (by omega) (by omega)
  show IntKind.u64.wrap ((BitVec.ofInt 64 (a : Int) ||| BitVec.ofInt 64 (b : Int)).toNat : Int) = _
  rw [BitVec.toNat_or, u64_ofInt a ha, u64_ofInt b hb, IntKind.wrap_u64]
  omega
theorem i64_low7 (a : Nat) (ha : a < 9223372036854775808) : bits .and .i64 (a : Int) 127 = ((a % 128 : Nat) : Int) := by
  have g : a &&& 127 = a % 128 := Nat.and_two_pow_sub_one_eq_mod a 7
  have f : (BitVec.ofInt 64 (127 : Int)).toNat = 127 := by rfl
  show IntKind.i64.wrap ((BitVec.ofInt 64 (a : Int) &&& BitVec.ofInt 64 (127 : Int)).toNat : Int) = _
  rw [BitVec.toNat_and, u64_ofInt a (by omega), f, g, IntKind.wrap_i64]
  omega
theorem bmap_le (u : Nat → Nat) (c : Nat) (hu : ∀ b, b < 256 → u b ≤ c) : ∀ k x, bmap u k x ≤ c * rep 1 k
  | 0, _ => Nat.zero_le _
  | k + 1, x => by
    have h1 := bmap_le u c hu k (x / 256)
    have h2 := hu (x % 256) (Nat.mod_lt _ (by omega))
    have e : c * rep 1 (k + 1) = c + 256 * (c * rep 1 k) := by rw [rep, Nat.mul_add, Nat.mul_one, Nat.mul_left_comm]
    rw [bmap, e]
    omega

end Go.Proofs.YtpgjomndfkkchabDoor
