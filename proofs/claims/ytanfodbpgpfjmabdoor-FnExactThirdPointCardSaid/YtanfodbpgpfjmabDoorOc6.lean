/- How many bits of a word are set, by the program: math/bits.OnesCount64. -/
import Derived.Test.YtanfodbpgpfjmabDoorOcm
import Derived.WalkLawsBesides
import Derived.Deep.Cut
namespace Go.Proofs.YtanfodbpgpfjmabDoor
open Go.RowKit
set_option linter.unusedVariables false

theorem u64_ofInt (a : Nat) (ha : a < 18446744073709551616) : (BitVec.ofInt 64 (a : Int)).toNat = a := by
  rw [BitVec.ofInt_natCast, BitVec.toNat_ofNat]; exact Nat.mod_eq_of_lt (by omega)
theorem u64_and (a b : Nat) (ha : a < 18446744073709551616) (hb : b < 18446744073709551616) : bits .and .u64 (a : Int) (b : Int) = ((a &&& b : Nat) : Int) := by
  have hx : a &&& b ≤ a := Nat.and_le_left
  show IntKind.u64.wrap ((BitVec.ofInt 64 (a : Int) &&& BitVec.ofInt 64 (b : Int)).toNat : Int) = _
  rw [BitVec.toNat_and, u64_ofInt a ha, u64_ofInt b hb, IntKind.wrap_u64]
  omega
theorem u64_or (a b : Nat) (ha : a < 18446744073709551616) (hb : b < 18446744073709551616) : bits .or .u64 (a : Int) (b : Int) = ((a ||| b : Nat) : Int) := by
  have hx : a ||| b < 2 ^ 64 := Nat.or_lt_two_pow (by omega) (by omega)
  show IntKind.u64.wrap ((BitVec.ofInt 64 (a : Int) ||| BitVec.ofInt 64 (b : Int)).toNat : Int) = _
  rw [BitVec.toNat_or, u64_ofInt a ha, u64_ofInt b hb, IntKind.wrap_u64]
  omega
theorem i64_low7 (a : Nat) (ha : a < 9223372036854775808) : bits .and .i64 (a : Int) 127 = ((a % 128 : Nat) : Int) := by
  have g : a &&& 127 = a % 128 := Nat.and_two_pow_sub_one_eq_mod a 7
  have f : (BitVec.ofInt 64 (127 : Int)).toNat = 127 := by rfl
  show IntKind.i64.wrap ((BitVec.ofInt 64 (a : Int) &&& BitVec.ofInt 64 (127 : Int)).toNat : Int) = _
  rw [BitVec.toNat_and, u64_ofInt a (by omega), f, g, IntKind.wrap_i64]
  omega
theorem bmap_le (u : Nat → Nat) (c : Nat) (hu : ∀ b, b < 256 → u b ≤ c) : ∀ k x, bmap u k x ≤ c * rep 1 k
  | 0, _ => Nat.zero_le _
  | k + 1, x => by
    have h1 := bmap_le u c hu k (x / 256)
    have h2 := hu (x % 256) (Nat.mod_lt _ (by omega))
    have e : c * rep 1 (k + 1) = c + 256 * (c * rep 1 k) := by rw [rep, Nat.mul_add, Nat.mul_one, Nat.mul_left_comm]
    rw [bmap, e]
    omega

set_option maxRecDepth 100000 in
set_option maxHeartbeats 1000000 in
theorem iones64 (x : Nat) (w : World) (hx : x < 18446744073709551616) :
    Calls Tryd.prog 75 #[.int .u64 x] w fun e w' => e = .returned (.int .i64 (cnt 64 (fun i => x.testBit i) : Nat)) ∧ w' = w := by
  have r85 : rep 85 8 = 6148914691236517205 := by rfl
  have r51 : rep 51 8 = 3689348814741910323 := by rfl
  have r15 : rep 15 8 = 1085102592571150095 := by rfl
  have r1 : rep 1 8 = 72340172838076673 := by rfl
  obtain ⟨a, ha⟩ : ∃ a, (x / 2 &&& rep 85 8) + (x &&& rep 85 8) = a := ⟨_, rfl⟩
  obtain ⟨b, hb⟩ : ∃ b, (a / 4 &&& rep 51 8) + (a &&& rep 51 8) = b := ⟨_, rfl⟩
  obtain ⟨c, hc⟩ : ∃ c, (b / 16 + b) &&& rep 15 8 = c := ⟨_, rfl⟩
  have cc := steps x a b c ha hb hc
  obtain ⟨d, hd⟩ : ∃ d, c + c / 256 = d := ⟨_, rfl⟩
  obtain ⟨e, he⟩ : ∃ e, d + d / 65536 = e := ⟨_, rfl⟩
  obtain ⟨f, hf⟩ : ∃ f, e + e / 4294967296 = f := ⟨_, rfl⟩
  obtain ⟨L1, L2, L3, L4, L5⟩ := last x c d e f cc hd.symm he.symm hf.symm
  have ab : a < 18446744073709551616 := by
    rw [← ha, step1]
    exact bmap_lt t1 t1_lt 8 x
  have bb : b ≤ 68 * 72340172838076673 := by
    rw [← hb, step2, ← ha, step1, bmap_bmap t1 t2 t1_lt, ← r1]
    refine bmap_le _ 68 (fun b h => ?_) 8 x
    have := (tab3_at b h).1
    omega
  obtain ⟨p1, hp1⟩ : ∃ p, x / 2 &&& rep 85 8 = p := ⟨_, rfl⟩
  obtain ⟨p2, hp2⟩ : ∃ p, x &&& rep 85 8 = p := ⟨_, rfl⟩
  obtain ⟨q1, hq1⟩ : ∃ p, a / 4 &&& rep 51 8 = p := ⟨_, rfl⟩
  obtain ⟨q2, hq2⟩ : ∃ p, a &&& rep 51 8 = p := ⟨_, rfl⟩
  rw [hp1, hp2] at ha
  rw [hq1, hq2] at hb
  rw [r85] at hp1 hp2
  rw [r51] at hq1 hq2
  rw [r15] at hc
  have P1 : bits .and .u64 ((x : Int) / 2) 6148914691236517205 = (p1 : Int) := by
    rw [show (x : Int) / 2 = ((x / 2 : Nat) : Int) by omega, ← hp1]; exact u64_and _ 6148914691236517205 (by omega) (by omega)
  have P2 : bits .and .u64 (x : Int) 6148914691236517205 = (p2 : Int) := by rw [← hp2]; exact u64_and _ 6148914691236517205 (by omega) (by omega)
  have Q1 : bits .and .u64 ((a : Int) / 4) 3689348814741910323 = (q1 : Int) := by
    rw [show (a : Int) / 4 = ((a / 4 : Nat) : Int) by omega, ← hq1]; exact u64_and _ 3689348814741910323 (by omega) (by omega)
  have Q2 : bits .and .u64 (a : Int) 3689348814741910323 = (q2 : Int) := by rw [← hq2]; exact u64_and _ 3689348814741910323 (by omega) (by omega)
  obtain ⟨s, hs⟩ : ∃ s, b / 16 + b = s := ⟨_, rfl⟩
  rw [hs] at hc
  have R1 : bits .and .u64 (s : Int) 1085102592571150095 = (c : Int) := by rw [← hc]; exact u64_and _ 1085102592571150095 (by omega) (by omega)
  have W1 : IntKind.u64.wrap ((p1 : Int) + (p2 : Int)) = (a : Int) := by rw [IntKind.wrap_u64]; omega
  have W2 : IntKind.u64.wrap ((q1 : Int) + (q2 : Int)) = (b : Int) := by rw [IntKind.wrap_u64]; omega
  have W3 : IntKind.u64.wrap ((b : Int) / 16 + (b : Int)) = (s : Int) := by rw [IntKind.wrap_u64]; omega
  have W4 : IntKind.u64.wrap ((c : Int) + (c : Int) / 256) = (d : Int) := by rw [IntKind.wrap_u64]; omega
  have W5 : IntKind.u64.wrap ((d : Int) + (d : Int) / 65536) = (e : Int) := by rw [IntKind.wrap_u64]; omega
  have W6 : IntKind.u64.wrap ((e : Int) + (e : Int) / 4294967296) = (f : Int) := by rw [IntKind.wrap_u64]; omega
  have W7 : IntKind.i64.wrap (f : Int) = (f : Int) := IntWalk.i64_in _ (by omega)
  have W8 : bits .and .i64 (f : Int) 127 = ((f % 128 : Nat) : Int) := i64_low7 f L2
  rw [L1] at W8
  obtain ⟨z, hz⟩ : ∃ z, cnt 64 (fun i => x.testBit i) = z := ⟨_, rfl⟩
  rw [hz] at W8 ⊢
  clear hz L1 L2 L3 L4 L5 ha hb hc hd he hf hs hp1 hp2 hq1 hq2 ab bb cc hx r85 r51 r15 r1
  go_enter Tryd.func75, Tryd.ntmps75
  go_wp2
  go_ret
  exact ⟨rfl, rfl⟩
end Go.Proofs.YtanfodbpgpfjmabDoor
