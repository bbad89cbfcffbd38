/- How many bits of a set are set, by the program: math/bits.OnesCount32, pointSet.size. -/
import Derived.Test.YtdhlnagkhkcoiaaDoorOcm
import Derived.Lib.Tables
import Derived.WalkLawsBesides
import Derived.StillTailTactics
import Derived.Deep.Cut
namespace Go.Proofs.YtdhlnagkhkcoiaaDoor
open Go.RowKit
set_option linter.unusedVariables false

theorem pop_c8 : allB 256 (fun b => decide (Lib.pop8 (b : Int) = (c8 b : Int))) = true := by kernel_rfl
theorem pop_at (b : Nat) (h : b < 256) : Lib.pop8 (b : Int) = (c8 b : Int) := of_decide_eq_true (allB_at _ _ pop_c8 b h)
theorem pop_tab : (match ({ dst := some 5, op := Op.index 9 (Operand.const (Value.string { data := (([0, 1, 1, 2, 1, 2, 2, 3, 1, 2, 2, 3, 2, 3, 3, 4, 1, 2, 2, 3, 2, 3, 3, 4, 2, 3, 3, 4, 3, 4, 4, 5, 1, 2, 2, 3, 2, 3, 3, 4, 2, 3, 3, 4, 3, 4, 4, 5, 2, 3, 3, 4, 3, 4, 4, 5, 3, 4, 4, 5, 4, 5, 5, 6].append [1, 2, 2, 3, 2, 3, 3, 4, 2, 3, 3, 4, 3, 4, 4, 5, 2, 3, 3, 4, 3, 4, 4, 5, 3, 4, 4, 5, 4, 5, 5, 6, 2, 3, 3, 4, 3, 4, 4, 5, 3, 4, 4, 5, 4, 5, 5, 6, 3, 4, 4, 5, 4, 5, 5, 6, 4, 5, 5, 6, 5, 6, 6, 7]).append ([1, 2, 2, 3, 2, 3, 3, 4, 2, 3, 3, 4, 3, 4, 4, 5, 2, 3, 3, 4, 3, 4, 4, 5, 3, 4, 4, 5, 4, 5, 5, 6, 2, 3, 3, 4, 3, 4, 4, 5, 3, 4, 4, 5, 4, 5, 5, 6, 3, 4, 4, 5, 4, 5, 5, 6, 4, 5, 5, 6, 5, 6, 6, 7].append [2, 3, 3, 4, 3, 4, 4, 5, 3, 4, 4, 5, 4, 5, 5, 6, 3, 4, 4, 5, 4, 5, 5, 6, 4, 5, 5, 6, 5, 6, 6, 7, 3, 4, 4, 5, 4, 5, 5, 6, 4, 5, 5, 6, 5, 6, 6, 7, 4, 5, 5, 6, 5, 6, 6, 7, 5, 6, 6, 7, 6, 7, 7, 8])).toArray })) (Operand.tmp 4), type := 5, pos := "bits.go:136", after := #[{ on := 1, ground := Ground.data }], guard := none } : Oper).op with | .index _ (.const (.string s)) _ => s | _ => ByteArray.empty) = Lib.pop8tab := by kernel_rfl
theorem u32_low (a : Nat) (ha : a < 4294967296) : bits .and .u32 (a : Int) 255 = ((a % 256 : Nat) : Int) := by
  have e : (BitVec.ofInt 32 (a : Int)).toNat = a := by rw [BitVec.ofInt_natCast, BitVec.toNat_ofNat]; exact Nat.mod_eq_of_lt (by omega)
  have f : (BitVec.ofInt 32 (255 : Int)).toNat = 255 := by rfl
  have g : a &&& 255 = a % 256 := Nat.and_two_pow_sub_one_eq_mod a 8
  show IntKind.u32.wrap ((BitVec.ofInt 32 (a : Int) &&& BitVec.ofInt 32 (255 : Int)).toNat : Int) = _
  rw [BitVec.toNat_and, e, f, g, IntKind.wrap_u32]
  omega

set_option maxRecDepth 100000 in
set_option maxHeartbeats 1000000 in
theorem iones32 (x : Nat) (w : World) (hx : x < 4294967296) :
    Calls Tryd.prog 94 #[.int .u32 x] w fun e w' => e = .returned (.int .i64 (cnt 32 (fun i => x.testBit i) : Nat)) ∧ w' = w.drew := by
  have E := pop_tab
  dsimp only at E
  have c := cnt_bsum 4 x
  rw [show 8 * 4 = 32 from rfl] at c
  simp only [bsum, Nat.add_zero] at c
  have a3 : (x : Int) / 16777216 = ((x / 256 / 256 / 256 % 256 : Nat) : Int) := by omega
  have a2 : bits .and .u32 ((x : Int) / 65536) 255 = ((x / 256 / 256 % 256 : Nat) : Int) := by
    rw [show (x : Int) / 65536 = ((x / 256 / 256 : Nat) : Int) by omega, u32_low _ (by omega)]
  have a1 : bits .and .u32 ((x : Int) / 256) 255 = ((x / 256 % 256 : Nat) : Int) := by
    rw [show (x : Int) / 256 = ((x / 256 : Nat) : Int) by omega, u32_low _ (by omega)]
  have a0 : bits .and .u32 (x : Int) 255 = ((x % 256 : Nat) : Int) := u32_low _ hx
  obtain ⟨b3, h3⟩ : ∃ b, x / 256 / 256 / 256 % 256 = b := ⟨_, rfl⟩
  obtain ⟨b2, h2⟩ : ∃ b, x / 256 / 256 % 256 = b := ⟨_, rfl⟩
  obtain ⟨b1, h1⟩ : ∃ b, x / 256 % 256 = b := ⟨_, rfl⟩
  obtain ⟨b0, h0⟩ : ∃ b, x % 256 = b := ⟨_, rfl⟩
  rw [h3] at a3 c
  rw [h2] at a2 c
  rw [h1] at a1 c
  rw [h0] at a0 c
  have l3 : b3 < 256 := by omega
  have l2 : b2 < 256 := by omega
  have l1 : b1 < 256 := by omega
  have l0 : b0 < 256 := by omega
  have p3 := pop_at b3 l3
  have p2 := pop_at b2 l2
  have p1 := pop_at b1 l1
  have p0 := pop_at b0 l0
  have q3 := c8_le b3
  have q2 := c8_le b2
  have q1 := c8_le b1
  have q0 := c8_le b0
  obtain ⟨k3, e3⟩ : ∃ k, c8 b3 = k := ⟨_, rfl⟩
  obtain ⟨k2, e2⟩ : ∃ k, c8 b2 = k := ⟨_, rfl⟩
  obtain ⟨k1, e1⟩ : ∃ k, c8 b1 = k := ⟨_, rfl⟩
  obtain ⟨k0, e0⟩ : ∃ k, c8 b0 = k := ⟨_, rfl⟩
  rw [e3] at p3 c q3
  rw [e2] at p2 c q2
  rw [e1] at p1 c q1
  rw [e0] at p0 c q0
  have C := Lib.hid c
  have m3 : (0 : Int) ≤ (b3 : Int) ∧ (b3 : Int) ≤ 255 := by omega
  have m2 : (0 : Int) ≤ (b2 : Int) ∧ (b2 : Int) ≤ 255 := by omega
  have m1 : (0 : Int) ≤ (b1 : Int) ∧ (b1 : Int) ≤ 255 := by omega
  have m0 : (0 : Int) ≤ (b0 : Int) ∧ (b0 : Int) ≤ 255 := by omega
  obtain ⟨m3, n3⟩ := m3
  obtain ⟨m2, n2⟩ := m2
  obtain ⟨m1, n1⟩ := m1
  obtain ⟨m0, n0⟩ := m0
  have V : Hid (IntKind.i64.wrap (IntKind.u8.wrap (IntKind.u8.wrap (IntKind.u8.wrap ((k3 : Int) + (k2 : Int)) + (k1 : Int)) + (k0 : Int))) = ((k0 + (k1 + (k2 + k3)) : Nat) : Int)) := by
    unfold Hid
    rw [IntKind.wrap_u8, IntKind.wrap_u8, IntKind.wrap_u8, IntKind.wrap_i64]
    omega
  rw [C.out]
  clear h3 h2 h1 h0 l3 l2 l1 l0 e3 e2 e1 e0 c q3 q2 q1 q0 hx C
  go_enter Tryd.func94, Tryd.ntmps94
  go_wp2
  refine wp_region_still_lit (by kernel_rfl) (by kernel_rfl) ?_
  repeat still_step
  refine wpStill_nil ?_
  go_wp2
  go_ret
  exact ⟨congrArg (fun z => Ending.returned (.int .i64 z)) V.out, rfl⟩

theorem isize (x : Nat) (w : World) (hx : x < 4294967296) :
    Calls Tryd.prog 78 #[.int .u32 x] w fun e w' => e = .returned (.int .i64 (cnt 32 (fun i => x.testBit i) : Nat)) ∧ w' = w.drew := by
  have H := Lib.hid (fun W => iones32 x W hx)
  have l := cnt_le (fun i => x.testBit i) 32
  obtain ⟨c, hc⟩ : ∃ c, cnt 32 (fun i => x.testBit i) = c := ⟨_, rfl⟩
  simp only [hc] at H ⊢
  have s : IntKind.i64.wrap (c : Int) = (c : Int) := IntWalk.i64_in _ (by omega)
  clear hc l hx
  go_enter Tryd.func78, Tryd.ntmps78
  go_wp2_with fail
  refine (H.out _).mono ?_
  rintro e w2 ⟨rfl, rfl⟩
  go_wp2
  go_ret
  exact ⟨rfl, rfl⟩
end Go.Proofs.YtdhlnagkhkcoiaaDoor
