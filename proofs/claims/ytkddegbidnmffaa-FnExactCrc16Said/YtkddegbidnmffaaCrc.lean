/- Crc16 of both packages. -/
import Derived.Test.YtkddegbidnmffaaIn
import Derived.WalkLawsBesides
import Derived.Laws.BitsAllLaws
namespace Go.Proofs.Ytkddegbidnmffaa
open Go.RowKit
set_option linter.unusedVariables false

theorem i64_xor_nat (a b : Nat) (ha : a < 65536) (hb : b < 65536) : bits .xor .i64 (a : Int) (b : Int) = ((a ^^^ b : Nat) : Int) := by
  have hx : a ^^^ b < 2 ^ 16 := Nat.xor_lt_two_pow (by omega) (by omega)
  have h1 : (BitVec.ofInt 64 (a : Int)).toNat = a := by
    rw [BitVec.ofInt_natCast, BitVec.toNat_ofNat]; exact Nat.mod_eq_of_lt (by omega)
  have h2 : (BitVec.ofInt 64 (b : Int)).toNat = b := by
    rw [BitVec.ofInt_natCast, BitVec.toNat_ofNat]; exact Nat.mod_eq_of_lt (by omega)
  show IntKind.i64.wrap ((BitVec.ofInt 64 (a : Int) ^^^ BitVec.ofInt 64 (b : Int)).toNat : Int) = _
  rw [BitVec.toNat_xor, h1, h2, IntKind.wrap_i64]
  omega

theorem i64_and_ffff (n : Int) : bits .and .i64 n 65535 = n % 65536 := by
  have h127 : (BitVec.ofInt 64 65535).toNat = 2 ^ 16 - 1 := by decide
  have key : (BitVec.ofInt 64 n &&& BitVec.ofInt 64 65535).toNat = (n % ((2 ^ 64 : Nat) : Int)).toNat % 2 ^ 16 := by
    rw [BitVec.toNat_and, BitVec.toNat_ofInt, h127, Nat.and_two_pow_sub_one_eq_mod]
  show IntKind.i64.wrap ((BitVec.ofInt 64 n &&& BitVec.ofInt 64 65535).toNat : Nat) = n % 65536
  rw [key, IntKind.wrap_i64]
  omega

def crcBit (x : Nat) : Nat := if 32768 ≤ x then (x * 2 % 65536) ^^^ 4129 else x * 2 % 65536
def crcN (x : Nat) : Nat → Nat
  | 0 => x
  | k + 1 => crcBit (crcN x k)
def crcByte (x c : Nat) : Nat := crcN (x ^^^ (c * 256)) 8
theorem crcBit_lt (x : Nat) : crcBit x < 65536 := by
  unfold crcBit
  split
  · exact Nat.xor_lt_two_pow (n := 16) (by omega) (by omega)
  · omega
theorem crcN_lt (x k : Nat) (h : x < 65536) : crcN x k < 65536 := by
  cases k with
  | zero => exact h
  | succ k => exact crcBit_lt _
theorem xor_lt (x c : Nat) (h : x < 65536) (hc : c < 256) : x ^^^ (c * 256) < 65536 := Nat.xor_lt_two_pow (n := 16) (by omega) (by omega)

theorem istep (x c : Nat) (w : World) (hx : x < 65536) (hc : c < 256) :
    Calls Try.prog 28 #[.int .u16 x, .int .u8 c] w fun e w' => e = .returned (.int .u16 (crcByte x c : Nat)) ∧ w = w' := by
  have E := Lib.hid (show bits .xor .u16 (x : Int) ((c : Int) * 256) = ((x ^^^ (c * 256) : Nat) : Int) from u16_xor_nat x (c * 256) hx (by omega))
  have hx' : (x : Int) < 65536 := by omega
  have hc' : (c : Int) < 256 := by omega
  go_enter Try.func28, Try.ntmps28
  go_wp2
  go_loop [0, 11] (fun u i => ∃ j : Nat, j ≤ 8 ∧ i = .int .i64 j ∧ u = .int .u16 (crcN (x ^^^ (c * 256)) j : Nat)) (fun _ i => 8 - (intOf i).toNat)
  case atStart => exact ⟨0, by omega, rfl, by rw [E.out]; rfl⟩
  case round =>
    obtain ⟨j, hj, rfl, rfl⟩ := hrel
    obtain ⟨z, hz⟩ : ∃ z, crcN (x ^^^ (c * 256)) j = z := ⟨_, rfl⟩
    have z1 := crcN_lt (x ^^^ (c * 256)) j (xor_lt x c hx hc)
    have HZ := Lib.hid hz
    rw [hz] at z1 ⊢
    clear hz
    by_cases hlt : j < 8
    · have j8 : (j : Int) < 8 := by omega
      by_cases hh : 32768 ≤ z
      · have V := Lib.hid (show crcN (x ^^^ (c * 256)) (j + 1) = (z * 2 % 65536) ^^^ 4129 by show crcBit _ = _; rw [HZ.out]; exact if_pos hh)
        have hh' : (32768 : Int) ≤ (z : Int) := by omega
        go_wp2
        go_round
        case rel => exact ⟨j + 1, by omega, by go_num, by rw [V.out, IntKind.wrap_u16, show (z : Int) * 2 % 65536 = ((z * 2 % 65536 : Nat) : Int) by omega]; exact congrArg (Value.int .u16) (u16_xor_nat _ 4129 (by omega) (by omega))⟩
        case measure => simp [intOf]; omega
      · have V := Lib.hid (show crcN (x ^^^ (c * 256)) (j + 1) = z * 2 % 65536 by show crcBit _ = _; rw [HZ.out]; exact if_neg hh)
        have hh' : ¬ (32768 : Int) ≤ (z : Int) := by omega
        go_wp2
        go_round
        case rel => exact ⟨j + 1, by omega, by go_num, by rw [V.out]; exact congrArg (Value.int .u16) (by omega)⟩
        case measure => simp [intOf]; omega
    · obtain rfl : j = 8 := by omega
      go_wp2
      go_ret
      exact ⟨by rw [← HZ.out]; rfl, rfl⟩

/-- The check value of the first k bytes. -/
def crcTo (s : ByteArray) (x : Nat) : Nat → Nat
  | 0 => x
  | k + 1 => crcByte (crcTo s x k) (if h : k < s.size then s[k].toNat else 0)
theorem crcTo_lt (s : ByteArray) (x k : Nat) (h : x < 65536) : crcTo s x k < 65536 := by
  cases k with
  | zero => exact h
  | succ k => exact crcBit_lt _

theorem icrc (s : ByteArray) (x : Nat) (w : World) (hs : s.size ≤ 1048576) (hx : x < 65536) :
    Calls Try.prog 17 #[.string s, .int .i64 x] w fun e w' => e = .returned (.int .i64 (crcTo s x s.size : Nat)) ∧ w = w' := by
  have x0 : ¬ (x : Int) < 0 := by omega
  have x1 : ¬ (65535 : Int) < (x : Int) := by omega
  have x2 : (x : Int) < 65536 := by omega
  go_enter Try.func17, Try.ntmps17
  go_wp2
  go_loop [5, 6] (fun u i => ∃ k : Nat, k ≤ s.size ∧ i = .int .i64 k ∧ u = .int .u16 (crcTo s x k : Nat)) (fun _ i => s.size - (intOf i).toNat)
  case atStart => exact ⟨0, by omega, rfl, rfl⟩
  case round =>
    obtain ⟨k, hk, rfl, rfl⟩ := hrel
    obtain ⟨z, hz⟩ : ∃ z, crcTo s x k = z := ⟨_, rfl⟩
    have z1 := crcTo_lt s x k hx
    have HZ := Lib.hid hz
    rw [hz] at z1 ⊢
    clear hz
    by_cases hlt : k < s.size
    · have V := Lib.hid (show crcTo s x (k + 1) = crcByte z s[k].toNat by show crcByte _ _ = _; rw [HZ.out, dif_pos hlt])
      go_wp2_with (go_at_call 28; refine (istep z s[k].toNat _ z1 (UInt8.toNat_lt _)).mono ?_; rintro e w' ⟨rfl, rfl⟩)
      go_round
      case rel => exact ⟨k + 1, by omega, by go_num, by rw [V.out]⟩
      case measure => simp [intOf]; omega
    · obtain rfl : k = s.size := by omega
      have z2 : (z : Int) < 65536 := by omega
      go_wp2
      go_ret
      exact ⟨ret_i _ _ (by rw [HZ.out]), rfl⟩

theorem icrc_no (s : ByteArray) (x : Int) (w : World) (h : x < 0 ∨ 65535 < x) :
    Calls Try.prog 17 #[.string s, .int .i64 x] w fun e w' => e = .returned (.int .i64 0) ∧ w = w' := by
  rcases h with h | h
  all_goals
    go_enter Try.func17, Try.ntmps17
    go_wp2
    go_ret
    exact ⟨rfl, rfl⟩

theorem scrc_no (s : ByteArray) (x : Int) (w : World) (h : x < 0 ∨ 65535 < x) :
    Calls Try.prog 16 #[.string s, .int .i64 x] w fun e w' => e = .returned (.int .i64 0) ∧ w = w' := by
  have H := Lib.hid h
  clear h
  go_enter Try.func16, Try.ntmps16
  go_wp2_with (go_at_call 18; refine (in_no _ _ _ _ H.out).mono ?_; rintro e w' ⟨rfl, rfl⟩)
  go_ret
  exact ⟨rfl, rfl⟩

set_option maxHeartbeats 800000 in
theorem sl01 (s : ByteArray) (x : Nat) (w : World) (hs : s.size ≤ 1048576) (hx : x < 65536) :
    Calls Try.prog 27 #[.string s, .int .i64 x] w fun e w' => e = .returned (.int .i64 (crcTo s x s.size : Nat)) ∧ w = w' := by
  go_enter Try.func27, Try.ntmps27
  go_wp2
  go_loop [1, 5] (fun u i => ∃ k : Nat, k ≤ s.size ∧ i = .int .i64 k ∧ u = .int .i64 (crcTo s x k : Nat)) (fun _ i => s.size - (intOf i).toNat)
  case atStart => exact ⟨0, by omega, rfl, rfl⟩
  case round =>
    obtain ⟨k, hk, rfl, rfl⟩ := hrel
    obtain ⟨z, hz⟩ : ∃ z, crcTo s x k = z := ⟨_, rfl⟩
    have z1 := crcTo_lt s x k hx
    have HZ := Lib.hid hz
    rw [hz] at z1 ⊢
    clear hz
    by_cases hlt : k < s.size
    · obtain ⟨c, hc⟩ : ∃ c, s[k].toNat = c := ⟨_, rfl⟩
      have c1 : c < 256 := by rw [← hc]; exact UInt8.toNat_lt _
      have V := Lib.hid (show crcTo s x (k + 1) = crcByte z c by show crcByte _ _ = _; rw [HZ.out, dif_pos hlt, hc])
      have c2 : (c : Int) < 256 := by omega
      have E := Lib.hid (i64_xor_nat z (c * 256) z1 (by omega))
      go_wp2
      go_loop [1, 6] (fun u i => ∃ j : Nat, j ≤ 8 ∧ i = .int .i64 j ∧ u = .int .i64 (crcN (z ^^^ (c * 256)) j : Nat)) (fun _ i => 8 - (intOf i).toNat)
      case atStart => exact ⟨0, by omega, rfl, congrArg (Value.int .i64) E.out⟩
      case round =>
        obtain ⟨j, hj, rfl, rfl⟩ := hrel
        obtain ⟨y, hy⟩ : ∃ y, crcN (z ^^^ (c * 256)) j = y := ⟨_, rfl⟩
        have y1 := crcN_lt (z ^^^ (c * 256)) j (xor_lt z c z1 c1)
        have HY := Lib.hid hy
        rw [hy] at y1 ⊢
        clear hy
        by_cases h8 : j < 8
        · have j8 : (j : Int) < 8 := by omega
          by_cases hh : 32768 ≤ y
          · have W := Lib.hid (show crcN (z ^^^ (c * 256)) (j + 1) = (y * 2 % 65536) ^^^ 4129 by show crcBit _ = _; rw [HY.out]; exact if_pos hh)
            have hh' : (32768 : Int) ≤ (y : Int) := by omega
            go_wp2
            go_round
            case rel => exact ⟨j + 1, by omega, by go_num, by rw [W.out, i64_and_ffff, show (y : Int) * 2 % 65536 = ((y * 2 % 65536 : Nat) : Int) by omega]; exact congrArg (Value.int .i64) (i64_xor_nat _ 4129 (by omega) (by omega))⟩
            case measure => simp [intOf]; omega
          · have W := Lib.hid (show crcN (z ^^^ (c * 256)) (j + 1) = y * 2 % 65536 by show crcBit _ = _; rw [HY.out]; exact if_neg hh)
            have hh' : ¬ (32768 : Int) ≤ (y : Int) := by omega
            go_wp2
            go_round
            case rel => exact ⟨j + 1, by omega, by go_num, by rw [W.out, i64_and_ffff]; exact congrArg (Value.int .i64) (by omega)⟩
            case measure => simp [intOf]; omega
        · obtain rfl : j = 8 := by omega
          go_wp2
          go_round
          case rel => exact ⟨k + 1, by omega, by go_num, by rw [V.out, ← HY.out]; rfl⟩
          case measure => simp [intOf]; omega
    · obtain rfl : k = s.size := by omega
      go_wp2
      go_ret
      exact ⟨ret_i _ _ (by rw [HZ.out]), rfl⟩

theorem scrc (s : ByteArray) (x : Nat) (w : World) (hs : s.size ≤ 1048576) (hx : x < 65536) :
    Calls Try.prog 16 #[.string s, .int .i64 x] w fun e w' => e = .returned (.int .i64 (crcTo s x s.size : Nat)) ∧ w = w' := by
  have x0 : (0 : Int) ≤ (x : Int) := by omega
  have x1 : (x : Int) ≤ 65535 := by omega
  go_enter Try.func16, Try.ntmps16
  go_wp2_with (first | (go_at_call 18; refine (in_yes _ _ _ _ x0 x1).mono ?_; rintro e w' ⟨rfl, rfl⟩) | (go_at_call 27; refine (sl01 s x _ hs hx).mono ?_; rintro e w' ⟨rfl, rfl⟩))
  go_ret
  exact ⟨rfl, rfl⟩

theorem law_FnExactCrc16 (s : ByteArray) (x : Int) (w : World) (_ : s.size ≤ maxLen) (_ : (Lit.int .i64 x).wf = true) :
    Calls Try.prog 6 #[.string s, .int .i64 x] w fun r w' => r = .returned (.bool true) ∧ Below w.heap.size w w' := by
  by_cases hbig : 1048576 < s.size
  · have hb : (1048576 : Int) < (s.size : Int) := by omega
    go_enter Try.func6, Try.ntmps6
    go_wp2
    go_ret
    exact ⟨rfl, Below.refl _ _⟩
  · have hb : ¬ (1048576 : Int) < (s.size : Int) := by omega
    have hs : s.size ≤ 1048576 := by omega
    have K : ∃ r : Int, (∀ W, Calls Try.prog 16 #[.string s, .int .i64 x] W fun e w' => e = .returned (.int .i64 r) ∧ W = w') ∧ (∀ W, Calls Try.prog 17 #[.string s, .int .i64 x] W fun e w' => e = .returned (.int .i64 r) ∧ W = w') := by
      by_cases hx : 0 ≤ x ∧ x ≤ 65535
      · obtain ⟨n, rfl⟩ : ∃ n : Nat, x = n := ⟨x.toNat, by omega⟩
        exact ⟨_, fun W => scrc s n W hs (by omega), fun W => icrc s n W hs (by omega)⟩
      · exact ⟨0, fun W => scrc_no s x W (by omega), fun W => icrc_no s x W (by omega)⟩
    obtain ⟨r, hS, hI⟩ := K
    have HS := Lib.hid hS
    have HI := Lib.hid hI
    clear hS hI
    go_enter Try.func6, Try.ntmps6
    go_wp2_with (first | (go_at_call 16; refine (HS.out _).mono ?_; rintro r w' ⟨rfl, rfl⟩) | (go_at_call 17; refine (HI.out _).mono ?_; rintro r w' ⟨rfl, rfl⟩))
    go_ret
    exact ⟨rfl, Below.refl _ _⟩
end Go.Proofs.Ytkddegbidnmffaa
