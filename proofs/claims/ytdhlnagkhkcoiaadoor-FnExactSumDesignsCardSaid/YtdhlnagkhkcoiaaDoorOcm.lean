/- How many bits of a number are set: byte by byte. Mathematics alone. -/
import Derived.Test.YtdhlnagkhkcoiaaDoorBit
import Derived.WalkLawsBesides
import Derived.Deep.Cut
namespace Go.Proofs.YtdhlnagkhkcoiaaDoor
open Go.RowKit
set_option linter.unusedVariables false

/-- How many numbers below q pass a test. -/
def cnt : Nat → (Nat → Bool) → Nat
  | 0, _ => 0
  | q + 1, P => cnt q P + if P q then 1 else 0
theorem cnt_fls (P : Nat → Bool) : ∀ q, (fls q P).length = cnt q P
  | 0 => rfl
  | q + 1 => by
    rw [fls_succ, List.length_append, cnt_fls P q, cnt]
    split <;> rfl
theorem cnt_le (P : Nat → Bool) : ∀ q, cnt q P ≤ q
  | 0 => Nat.le_refl _
  | q + 1 => by
    have := cnt_le P q
    rw [cnt]; split <;> omega
theorem cnt_congr {P Q : Nat → Bool} : ∀ {q}, (∀ i, i < q → P i = Q i) → cnt q P = cnt q Q
  | 0, _ => rfl
  | q + 1, h => by rw [cnt, cnt, cnt_congr (fun i hi => h i (by omega)), h q (by omega)]
theorem cnt_add (a : Nat) (P : Nat → Bool) : ∀ b, cnt (a + b) P = cnt a P + cnt b (fun i => P (a + i))
  | 0 => rfl
  | b + 1 => by rw [← Nat.add_assoc, cnt, cnt_add a P b, cnt, Nat.add_assoc]
/-- The bits of a byte. -/
def c8 (b : Nat) : Nat := cnt 8 (fun i => b.testBit i)
theorem c8_le (b : Nat) : c8 b ≤ 8 := cnt_le _ _
theorem cnt_byte (x k : Nat) : cnt (8 + k) (fun i => x.testBit i) = c8 (x % 256) + cnt k (fun i => (x / 256).testBit i) := by
  rw [cnt_add]
  congr 1
  · exact cnt_congr fun i hi => by
      show x.testBit i = (x % 2 ^ 8).testBit i
      rw [Nat.testBit_mod_two_pow, decide_eq_true hi, Bool.true_and]
  · exact cnt_congr fun i hi => by
      show x.testBit (8 + i) = (x / 2 ^ 8).testBit i
      rw [Nat.testBit_div_two_pow, Nat.add_comm]
/-- The bytes of a number, added up. -/
def bsum (u : Nat → Nat) : Nat → Nat → Nat
  | 0, _ => 0
  | k + 1, x => u (x % 256) + bsum u k (x / 256)
theorem cnt_bsum : ∀ k x, cnt (8 * k) (fun i => x.testBit i) = bsum c8 k x
  | 0, x => rfl
  | k + 1, x => by
    rw [show 8 * (k + 1) = 8 + 8 * k by omega, cnt_byte, cnt_bsum k, bsum]
/-- The bytes of a number, each changed. -/
def bmap (u : Nat → Nat) : Nat → Nat → Nat
  | 0, _ => 0
  | k + 1, x => u (x % 256) + 256 * bmap u k (x / 256)
/-- A mask of equal bytes. -/
def rep (c : Nat) : Nat → Nat
  | 0 => 0
  | k + 1 => c + 256 * rep c k
theorem and_split (a c q d : Nat) (ha : a < 256) (hc : c < 256) : (a + 256 * q) &&& (c + 256 * d) = (a &&& c) + 256 * (q &&& d) := by
  have e : ∀ z y : Nat, z + 256 * y = 2 ^ 8 * y + z := fun z y => by rw [Nat.add_comm]
  have hac : (a &&& c) < 2 ^ 8 := Nat.lt_of_le_of_lt Nat.and_le_left ha
  refine Nat.eq_of_testBit_eq fun i => ?_
  rw [e, e, e, Nat.testBit_and, Nat.testBit_two_pow_mul_add _ (show a < 2 ^ 8 from ha), Nat.testBit_two_pow_mul_add _ (show c < 2 ^ 8 from hc), Nat.testBit_two_pow_mul_add _ hac]
  split
  · rw [Nat.testBit_and]
  · rw [Nat.testBit_and]
theorem bmap_lt (u : Nat → Nat) (hu : ∀ b, b < 256 → u b < 256) : ∀ k x, bmap u k x < 256 ^ k
  | 0, _ => by simp [bmap]
  | k + 1, x => by
    have h1 := bmap_lt u hu k (x / 256)
    have h2 := hu (x % 256) (Nat.mod_lt _ (by omega))
    rw [bmap, Nat.pow_succ]
    omega
theorem bmap_bmap (u v : Nat → Nat) (hu : ∀ b, b < 256 → u b < 256) : ∀ k x, bmap v k (bmap u k x) = bmap (fun b => v (u b)) k x
  | 0, _ => rfl
  | k + 1, x => by
    have h2 := hu (x % 256) (Nat.mod_lt _ (by omega))
    rw [bmap, bmap, bmap, show (u (x % 256) + 256 * bmap u k (x / 256)) % 256 = u (x % 256) by omega, show (u (x % 256) + 256 * bmap u k (x / 256)) / 256 = bmap u k (x / 256) by omega, bmap_bmap u v hu k]
def allB : Nat → (Nat → Bool) → Bool
  | 0, _ => true
  | n + 1, f => f n && allB n f
theorem allB_at (f : Nat → Bool) : ∀ n, allB n f = true → ∀ i, i < n → f i = true
  | 0, _, i, hi => by omega
  | n + 1, h, i, hi => by
    rw [allB, Bool.and_eq_true] at h
    by_cases e : i = n
    · rw [e]; exact h.1
    · exact allB_at f n h.2 i (by omega)
def t1 (b : Nat) : Nat := (b / 2 &&& 85) + (b &&& 85)
def t2 (b : Nat) : Nat := (b / 4 &&& 51) + (b &&& 51)
theorem tab1 : allB 256 (fun b => Nat.beq ((b / 2 + 128) &&& 85) (b / 2 &&& 85) && Nat.ble (t1 b) 255) = true := by kernel_rfl
theorem tab2 : allB 256 (fun b => Nat.beq ((b / 4 + 64) &&& 51) (b / 4 &&& 51) && Nat.beq ((b / 4 + 128) &&& 51) (b / 4 &&& 51) && Nat.beq ((b / 4 + 192) &&& 51) (b / 4 &&& 51) && Nat.ble (t2 b) 255) = true := by kernel_rfl
theorem tab3 : allB 256 (fun b => Nat.ble (t2 (t1 b) % 16) 4 && Nat.ble (t2 (t1 b) / 16) 4 && Nat.beq (t2 (t1 b) % 16 + t2 (t1 b) / 16) (c8 b)) = true := by kernel_rfl
theorem t1_lt (b : Nat) (h : b < 256) : t1 b < 256 := by
  have := allB_at _ _ tab1 b h
  rw [Bool.and_eq_true] at this
  have := Nat.le_of_ble_eq_true this.2
  omega
theorem t2_lt (b : Nat) (h : b < 256) : t2 b < 256 := by
  have := allB_at _ _ tab2 b h
  rw [Bool.and_eq_true] at this
  have := Nat.le_of_ble_eq_true this.2
  omega
theorem one1 (b p : Nat) (h : b < 256) (hp : p < 2) : (b / 2 + 128 * p) &&& 85 = b / 2 &&& 85 := by
  have := allB_at _ _ tab1 b h
  rw [Bool.and_eq_true] at this
  rcases (by omega : p = 0 ∨ p = 1) with rfl | rfl
  · rfl
  · exact Nat.eq_of_beq_eq_true this.1
theorem one2 (b p : Nat) (h : b < 256) (hp : p < 4) : (b / 4 + 64 * p) &&& 51 = b / 4 &&& 51 := by
  have := allB_at _ _ tab2 b h
  simp only [Bool.and_eq_true] at this
  rcases (by omega : p = 0 ∨ p = 1 ∨ p = 2 ∨ p = 3) with rfl | rfl | rfl | rfl
  · rfl
  · exact Nat.eq_of_beq_eq_true this.1.1.1
  · exact Nat.eq_of_beq_eq_true this.1.1.2
  · exact Nat.eq_of_beq_eq_true this.1.2
theorem step1 : ∀ k x, (x / 2 &&& rep 85 k) + (x &&& rep 85 k) = bmap t1 k x
  | 0, x => by simp [rep, bmap]
  | k + 1, x => by
    obtain ⟨b, r, hb, rfl⟩ : ∃ b r, b < 256 ∧ x = b + 256 * r := ⟨x % 256, x / 256, Nat.mod_lt _ (by omega), by omega⟩
    have e1 : (b + 256 * r) / 2 = (b / 2 + 128 * (r % 2)) + 256 * (r / 2) := by omega
    have ih := step1 k r
    rw [rep, bmap, e1, and_split _ _ _ _ (by omega) (by omega), and_split _ _ _ _ hb (by omega), one1 b _ hb (by omega), show (b + 256 * r) % 256 = b by omega, show (b + 256 * r) / 256 = r by omega, ← ih]
    unfold t1
    omega
theorem step2 : ∀ k x, (x / 4 &&& rep 51 k) + (x &&& rep 51 k) = bmap t2 k x
  | 0, x => by simp [rep, bmap]
  | k + 1, x => by
    obtain ⟨b, r, hb, rfl⟩ : ∃ b r, b < 256 ∧ x = b + 256 * r := ⟨x % 256, x / 256, Nat.mod_lt _ (by omega), by omega⟩
    have e1 : (b + 256 * r) / 4 = (b / 4 + 64 * (r % 4)) + 256 * (r / 4) := by omega
    have ih := step2 k r
    rw [rep, bmap, e1, and_split _ _ _ _ (by omega) (by omega), and_split _ _ _ _ hb (by omega), one2 b _ hb (by omega), show (b + 256 * r) % 256 = b by omega, show (b + 256 * r) / 256 = r by omega, ← ih]
    unfold t2
    omega
theorem step3 (u : Nat → Nat) (hu : ∀ b, b < 256 → u b % 16 ≤ 4 ∧ u b / 16 ≤ 4) : ∀ k x, (bmap u k x / 16 + bmap u k x) &&& rep 15 k = bmap (fun b => u b % 16 + u b / 16) k x ∧ bmap u k x % 16 ≤ 4
  | 0, x => by simp [rep, bmap]
  | k + 1, x => by
    obtain ⟨ih1, ih2⟩ := step3 u hu k (x / 256)
    obtain ⟨h1, h2⟩ := hu (x % 256) (Nat.mod_lt _ (by omega))
    rw [rep, bmap, bmap]
    obtain ⟨y, hy⟩ : ∃ y, bmap u k (x / 256) = y := ⟨_, rfl⟩
    obtain ⟨c, hc⟩ : ∃ c, u (x % 256) = c := ⟨_, rfl⟩
    rw [hy] at ih1 ih2 ⊢
    rw [hc] at h1 h2 ⊢
    have e1 : (c + 256 * y) / 16 + (c + 256 * y) = (c / 16 + 16 * (y % 16) + c) + 256 * (y / 16 + y) := by omega
    have e2 : (c / 16 + 16 * (y % 16) + c) &&& 15 = (c / 16 + 16 * (y % 16) + c) % 16 := Nat.and_two_pow_sub_one_eq_mod _ 4
    refine ⟨?_, by omega⟩
    rw [e1, and_split _ _ _ _ (by omega) (by omega), ih1, e2]
    omega
/-- What the first three steps make. -/
def p3 (x : Nat) : Nat := bmap c8 8 x
theorem bmap_congr {u v : Nat → Nat} (h : ∀ b, b < 256 → u b = v b) : ∀ k x, bmap u k x = bmap v k x
  | 0, _ => rfl
  | k + 1, x => by rw [bmap, bmap, h _ (Nat.mod_lt _ (by omega)), bmap_congr h k]
theorem tab3_at (b : Nat) (h : b < 256) : (t2 (t1 b) % 16 ≤ 4 ∧ t2 (t1 b) / 16 ≤ 4) ∧ t2 (t1 b) % 16 + t2 (t1 b) / 16 = c8 b := by
  have := allB_at _ _ tab3 b h
  simp only [Bool.and_eq_true] at this
  exact ⟨⟨Nat.le_of_ble_eq_true this.1.1, Nat.le_of_ble_eq_true this.1.2⟩, Nat.eq_of_beq_eq_true this.2⟩
theorem steps (x a b c : Nat) (ha : (x / 2 &&& rep 85 8) + (x &&& rep 85 8) = a) (hb : (a / 4 &&& rep 51 8) + (a &&& rep 51 8) = b) (hc : (b / 16 + b) &&& rep 15 8 = c) : c = bmap c8 8 x := by
  rw [step1] at ha
  rw [step2, ← ha, bmap_bmap t1 t2 t1_lt] at hb
  rw [← hb, (step3 (fun b => t2 (t1 b)) (fun b h => (tab3_at b h).1) 8 x).1, bmap_congr (fun b h => (tab3_at b h).2)] at hc
  exact hc.symm
theorem bmap_8 (u : Nat → Nat) (x : Nat) : ∃ c0 c1 c2 c3 c4 c5 c6 c7 : Nat, (∀ b, u b ≤ 8) → (c0 ≤ 8 ∧ c1 ≤ 8 ∧ c2 ≤ 8 ∧ c3 ≤ 8 ∧ c4 ≤ 8 ∧ c5 ≤ 8 ∧ c6 ≤ 8 ∧ c7 ≤ 8) ∧
    bmap u 8 x = c0 + 256 * (c1 + 256 * (c2 + 256 * (c3 + 256 * (c4 + 256 * (c5 + 256 * (c6 + 256 * c7)))))) ∧ bsum u 8 x = c0 + c1 + c2 + c3 + c4 + c5 + c6 + c7 := by
  refine ⟨u (x % 256), u (x / 256 % 256), u (x / 256 / 256 % 256), u (x / 256 / 256 / 256 % 256), u (x / 256 / 256 / 256 / 256 % 256), u (x / 256 / 256 / 256 / 256 / 256 % 256), u (x / 256 / 256 / 256 / 256 / 256 / 256 % 256), u (x / 256 / 256 / 256 / 256 / 256 / 256 / 256 % 256), fun h => ⟨⟨h _, h _, h _, h _, h _, h _, h _, h _⟩, ?_, ?_⟩⟩
  · simp only [bmap, Nat.mul_zero, Nat.add_zero]
  · simp only [bsum, Nat.add_zero]; omega
/-- The last three steps: the sum of the bytes. -/
theorem last (x c d e f : Nat) (hc : c = bmap c8 8 x) (hd : d = c + c / 256) (he : e = d + d / 65536) (hf : f = e + e / 4294967296) :
    f % 128 = cnt 64 (fun i => x.testBit i) ∧ f < 9223372036854775808 ∧ c < 9223372036854775808 ∧ d < 9223372036854775808 ∧ e < 9223372036854775808 := by
  have k := cnt_bsum 8 x
  obtain ⟨c0, c1, c2, c3, c4, c5, c6, c7, h⟩ := bmap_8 c8 x
  obtain ⟨⟨l0, l1, l2, l3, l4, l5, l6, l7⟩, h1, h2⟩ := h c8_le
  rw [h1] at hc
  rw [show 64 = 8 * 8 from rfl, k, h2]
  clear k h1 h2 h
  have d1 : d = (c0 + c1) + 256 * ((c1 + c2) + 256 * ((c2 + c3) + 256 * ((c3 + c4) + 256 * ((c4 + c5) + 256 * ((c5 + c6) + 256 * ((c6 + c7) + 256 * c7)))))) := by omega
  clear hd
  have e1 : e = (c0 + c1 + c2 + c3) + 256 * ((c1 + c2 + c3 + c4) + 256 * ((c2 + c3 + c4 + c5) + 256 * ((c3 + c4 + c5 + c6) + 256 * ((c4 + c5 + c6 + c7) + 256 * ((c5 + c6 + c7) + 256 * ((c6 + c7) + 256 * c7)))))) := by omega
  clear he
  obtain ⟨lo, hlo⟩ : ∃ lo, (c0 + c1 + c2 + c3) + 256 * ((c1 + c2 + c3 + c4) + 256 * ((c2 + c3 + c4 + c5) + 256 * (c3 + c4 + c5 + c6))) = lo := ⟨_, rfl⟩
  obtain ⟨hi, hhi⟩ : ∃ hi, (c4 + c5 + c6 + c7) + 256 * ((c5 + c6 + c7) + 256 * ((c6 + c7) + 256 * c7)) = hi := ⟨_, rfl⟩
  have e2 : e = lo + 4294967296 * hi := by omega
  have l1 : lo < 4294967296 := by omega
  have q : e / 4294967296 = hi := by rw [e2, Nat.add_mul_div_left _ _ (by omega), Nat.div_eq_of_lt l1, Nat.zero_add]
  rw [q] at hf
  clear q e1
  have f1 : f = (c0 + c1 + c2 + c3 + c4 + c5 + c6 + c7) + 256 * ((c1 + c2 + c3 + c4 + c5 + c6 + c7) + 256 * ((c2 + c3 + c4 + c5 + c6 + c7) + 256 * (c3 + c4 + c5 + c6 + c7)) + 16777216 * hi) := by omega
  have hb : hi ≤ 600000000 := by omega
  have eb : e < 9223372036854775808 := by omega
  clear hf e2 hhi hlo l1
  refine ⟨?_, by omega, by omega, by omega, eb⟩
  rw [f1]
  omega

/-! How many bits of a word are set, by the program: math/bits.OnesCount64. -/
section
open Go.RowKit
set_option linter.unusedVariables false

theorem u64_ofInt (a : Nat) (ha : a < 18446744073709551616) : (BitVec.ofInt 64 (a : Int)).toNat = a := by
  rw [BitVec.ofInt_natCast, BitVec.toNat_ofNat]; exact Nat.mod_eq_of_lt (by omega)
theorem u64_and (a b : Nat) (ha : a < 18446744073709551616) (hb : b < 18446744073709551616) : bits .and .u64 (a : Int) (b : Int) = ((a &&& b : Nat) : Int) := by
  have hx : a &&& b ≤ a := Nat.and_le_left
  show IntKind.u64.wrap ((BitVec.ofInt 64 (a : Int) &&& BitVec.ofInt 64 (b : Int)).toNat : Int) = _
  rw [BitVec.toNat_and, u64_ofInt a ha, u64_ofInt b hb, IntKind.wrap_u64]
  omega
theorem u64_or (a b : Nat) (ha : a < 18446744073709551616) (hb : b < 18446744073709551616) : bits .or .u64 (a : Int) (b : Int) = ((a ||| b : Nat) : Int) := by
  have hx : a ||| b < 2 ^ 64 := Nat.or_lt_two_pow (by omega) (by omega)
  show IntKind.u64.wrap ((BitVec.ofInt 64 (a : Int) ||| BitVec.ofInt 64 (b : Int)).toNat : Int) = _
  rw [BitVec.toNat_or, u64_ofInt a ha, u64_ofInt b hb, IntKind.wrap_u64]
  omega
theorem i64_low7 (a : Nat) (ha : a < 9223372036854775808) : bits .and .i64 (a : Int) 127 = ((a % 128 : Nat) : Int) := by
  have g : a &&& 127 = a % 128 := Nat.and_two_pow_sub_one_eq_mod a 7
  have f : (BitVec.ofInt 64 (127 : Int)).toNat = 127 := by rfl
  show IntKind.i64.wrap ((BitVec.ofInt 64 (a : Int) &&& BitVec.ofInt 64 (127 : Int)).toNat : Int) = _
  rw [BitVec.toNat_and, u64_ofInt a (by omega), f, g, IntKind.wrap_i64]
  omega
theorem bmap_le (u : Nat → Nat) (c : Nat) (hu : ∀ b, b < 256 → u b ≤ c) : ∀ k x, bmap u k x ≤ c * rep 1 k
  | 0, _ => Nat.zero_le _
  | k + 1, x => by
    have h1 := bmap_le u c hu k (x / 256)
    have h2 := hu (x % 256) (Nat.mod_lt _ (by omega))
    have e : c * rep 1 (k + 1) = c + 256 * (c * rep 1 k) := by rw [rep, Nat.mul_add, Nat.mul_one, Nat.mul_left_comm]
    rw [bmap, e]
    omega

set_option maxRecDepth 100000 in
set_option maxHeartbeats 1000000 in
theorem iones64 (x : Nat) (w : World) (hx : x < 18446744073709551616) :
    Calls Tryd.prog 124 #[.int .u64 x] w fun e w' => e = .returned (.int .i64 (cnt 64 (fun i => x.testBit i) : Nat)) ∧ w' = w := by
  have r85 : rep 85 8 = 6148914691236517205 := by rfl
  have r51 : rep 51 8 = 3689348814741910323 := by rfl
  have r15 : rep 15 8 = 1085102592571150095 := by rfl
  have r1 : rep 1 8 = 72340172838076673 := by rfl
  obtain ⟨a, ha⟩ : ∃ a, (x / 2 &&& rep 85 8) + (x &&& rep 85 8) = a := ⟨_, rfl⟩
  obtain ⟨b, hb⟩ : ∃ b, (a / 4 &&& rep 51 8) + (a &&& rep 51 8) = b := ⟨_, rfl⟩
  obtain ⟨c, hc⟩ : ∃ c, (b / 16 + b) &&& rep 15 8 = c := ⟨_, rfl⟩
  have cc := steps x a b c ha hb hc
  obtain ⟨d, hd⟩ : ∃ d, c + c / 256 = d := ⟨_, rfl⟩
  obtain ⟨e, he⟩ : ∃ e, d + d / 65536 = e := ⟨_, rfl⟩
  obtain ⟨f, hf⟩ : ∃ f, e + e / 4294967296 = f := ⟨_, rfl⟩
  obtain ⟨L1, L2, L3, L4, L5⟩ := last x c d e f cc hd.symm he.symm hf.symm
  have ab : a < 18446744073709551616 := by
    rw [← ha, step1]
    exact bmap_lt t1 t1_lt 8 x
  have bb : b ≤ 68 * 72340172838076673 := by
    rw [← hb, step2, ← ha, step1, bmap_bmap t1 t2 t1_lt, ← r1]
    refine bmap_le _ 68 (fun b h => ?_) 8 x
    have := (tab3_at b h).1
    omega
  obtain ⟨p1, hp1⟩ : ∃ p, x / 2 &&& rep 85 8 = p := ⟨_, rfl⟩
  obtain ⟨p2, hp2⟩ : ∃ p, x &&& rep 85 8 = p := ⟨_, rfl⟩
  obtain ⟨q1, hq1⟩ : ∃ p, a / 4 &&& rep 51 8 = p := ⟨_, rfl⟩
  obtain ⟨q2, hq2⟩ : ∃ p, a &&& rep 51 8 = p := ⟨_, rfl⟩
  rw [hp1, hp2] at ha
  rw [hq1, hq2] at hb
  rw [r85] at hp1 hp2
  rw [r51] at hq1 hq2
  rw [r15] at hc
  have P1 : bits .and .u64 ((x : Int) / 2) 6148914691236517205 = (p1 : Int) := by
    rw [show (x : Int) / 2 = ((x / 2 : Nat) : Int) by omega, ← hp1]; exact u64_and _ 6148914691236517205 (by omega) (by omega)
  have P2 : bits .and .u64 (x : Int) 6148914691236517205 = (p2 : Int) := by rw [← hp2]; exact u64_and _ 6148914691236517205 (by omega) (by omega)
  have Q1 : bits .and .u64 ((a : Int) / 4) 3689348814741910323 = (q1 : Int) := by
    rw [show (a : Int) / 4 = ((a / 4 : Nat) : Int) by omega, ← hq1]; exact u64_and _ 3689348814741910323 (by omega) (by omega)
  have Q2 : bits .and .u64 (a : Int) 3689348814741910323 = (q2 : Int) := by rw [← hq2]; exact u64_and _ 3689348814741910323 (by omega) (by omega)
  obtain ⟨s, hs⟩ : ∃ s, b / 16 + b = s := ⟨_, rfl⟩
  rw [hs] at hc
  have R1 : bits .and .u64 (s : Int) 1085102592571150095 = (c : Int) := by rw [← hc]; exact u64_and _ 1085102592571150095 (by omega) (by omega)
  have W1 : IntKind.u64.wrap ((p1 : Int) + (p2 : Int)) = (a : Int) := by rw [IntKind.wrap_u64]; omega
  have W2 : IntKind.u64.wrap ((q1 : Int) + (q2 : Int)) = (b : Int) := by rw [IntKind.wrap_u64]; omega
  have W3 : IntKind.u64.wrap ((b : Int) / 16 + (b : Int)) = (s : Int) := by rw [IntKind.wrap_u64]; omega
  have W4 : IntKind.u64.wrap ((c : Int) + (c : Int) / 256) = (d : Int) := by rw [IntKind.wrap_u64]; omega
  have W5 : IntKind.u64.wrap ((d : Int) + (d : Int) / 65536) = (e : Int) := by rw [IntKind.wrap_u64]; omega
  have W6 : IntKind.u64.wrap ((e : Int) + (e : Int) / 4294967296) = (f : Int) := by rw [IntKind.wrap_u64]; omega
  have W7 : IntKind.i64.wrap (f : Int) = (f : Int) := IntWalk.i64_in _ (by omega)
  have W8 : bits .and .i64 (f : Int) 127 = ((f % 128 : Nat) : Int) := i64_low7 f L2
  rw [L1] at W8
  obtain ⟨z, hz⟩ : ∃ z, cnt 64 (fun i => x.testBit i) = z := ⟨_, rfl⟩
  rw [hz] at W8 ⊢
  clear hz L1 L2 L3 L4 L5 ha hb hc hd he hf hs hp1 hp2 hq1 hq2 ab bb cc hx r85 r51 r15 r1
  go_enter Tryd.func124, Tryd.ntmps124
  go_wp2
  go_ret
  exact ⟨rfl, rfl⟩
end
end Go.Proofs.YtdhlnagkhkcoiaaDoor
