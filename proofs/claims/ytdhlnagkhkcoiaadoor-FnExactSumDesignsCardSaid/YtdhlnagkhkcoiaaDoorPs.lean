/- Sets as bits, by the program. -/
import Derived.Test.YtdhlnagkhkcoiaaDoorOc
import Derived.Lib.JoinLaws
import Derived.Laws.BitsAllLaws
import Derived.WalkLawsBesides
import Derived.Deep.Cut
import Derived.Shelf.Abstract
namespace Go.Proofs.YtdhlnagkhkcoiaaDoor
open Go.RowKit
set_option linter.unusedVariables false

theorem wrapk {n : Int} (h : -9223372036854775808 ≤ n ∧ n ≤ 9223372036854775807) : IntKind.i64.wrap n = n := IntWalk.i64_in _ h
theorem ofInt_u32 (a : Nat) (ha : a < 4294967296) : (BitVec.ofInt 32 (a : Int)).toNat = a := by
  rw [BitVec.ofInt_natCast, BitVec.toNat_ofNat]; exact Nat.mod_eq_of_lt (by omega)
theorem u32_and (a b : Nat) (ha : a < 4294967296) (hb : b < 4294967296) : bits .and .u32 (a : Int) (b : Int) = ((a &&& b : Nat) : Int) := by
  have hx : a &&& b < 2 ^ 32 := Nat.and_lt_two_pow _ (by omega)
  show IntKind.u32.wrap ((BitVec.ofInt 32 (a : Int) &&& BitVec.ofInt 32 (b : Int)).toNat : Int) = _
  rw [BitVec.toNat_and, ofInt_u32 a ha, ofInt_u32 b hb, IntKind.wrap_u32]
  omega
theorem u32_or (a b : Nat) (ha : a < 4294967296) (hb : b < 4294967296) : bits .or .u32 (a : Int) (b : Int) = ((a ||| b : Nat) : Int) := by
  have hx : a ||| b < 2 ^ 32 := Nat.or_lt_two_pow (by omega) (by omega)
  show IntKind.u32.wrap ((BitVec.ofInt 32 (a : Int) ||| BitVec.ofInt 32 (b : Int)).toNat : Int) = _
  rw [BitVec.toNat_or, ofInt_u32 a ha, ofInt_u32 b hb, IntKind.wrap_u32]
  omega
theorem u32_andNot (a b : Nat) (ha : a < 4294967296) (hb : b < 4294967296) : bits .andNot .u32 (a : Int) (b : Int) = ((a &&& (4294967295 - b) : Nat) : Int) := by
  have hx : a &&& (4294967295 - b) < 2 ^ 32 := Nat.and_lt_two_pow _ (by omega)
  show IntKind.u32.wrap ((BitVec.ofInt 32 (a : Int) &&& ~~~ BitVec.ofInt 32 (b : Int)).toNat : Int) = _
  rw [BitVec.toNat_and, BitVec.toNat_not, ofInt_u32 a ha, ofInt_u32 b hb, IntKind.wrap_u32]
  have e : 2 ^ 32 - 1 - b = 4294967295 - b := rfl
  rw [e]
  omega
/-- The table of the library. -/
def tabL : List Nat := [0, 1, 28, 2, 29, 14, 24, 3, 30, 22, 20, 15, 25, 17, 4, 8, 31, 27, 13, 23, 21, 19, 16, 7, 26, 12, 18, 6, 11, 5, 10, 9]
def Tab (w : World) : Prop := ∀ i, i < 32 → w.cell? ⟨0, i, none⟩ = some (.int .u8 (tabL.getD i 0 : Nat))
theorem Tab.below {B : Nat} {w w' : World} (h : Tab w) (hb : Below B w w') (h0 : 0 < B) : Tab w' := fun i hi => by
  rw [hb.cell (p := ⟨0, i, none⟩) h0]; exact h i hi
theorem Tab.pos {w : World} (h : Tab w) : 0 < w.heap.size := World.block_lt_of_cell? w _ (h 0 (by omega))
def allQ : Nat → (Nat → Bool) → Bool
  | 0, _ => true
  | n + 1, f => f n && allQ n f
theorem allQ_iff (f : Nat → Bool) : ∀ n, allQ n f = true → ∀ i, i < n → f i = true
  | 0, _, i, hi => by omega
  | n + 1, h, i, hi => by
    rw [allQ, Bool.and_eq_true] at h
    by_cases e : i = n
    · rw [e]; exact h.1
    · exact allQ_iff f n h.2 i (by omega)
theorem tab_all : allQ 32 (fun b => Nat.ble (2 ^ b * 125613361 % 4294967296 / 134217728 + 1) 32 && Nat.beq (tabL.getD (2 ^ b * 125613361 % 4294967296 / 134217728) 0) b) = true := by kernel_rfl

theorem itz (x b : Nat) (w : World) (hx : x < 4294967296) (hb : x.testBit b = true) (hl : ∀ i, i < b → x.testBit i = false) (ht : Tab w) :
    Calls Tryd.prog 79 #[.int .u32 x] w fun e w' => e = .returned (.int .i64 b) ∧ w = w' := by
  have b32 := bit_lt (by omega) hb
  have x0 : x ≠ 0 := by
    rintro rfl
    rw [Nat.zero_testBit] at hb; cases hb
  have g1 : ((x : Int) == 0) = false := by simp; omega
  have t := allQ_iff _ _ tab_all b b32
  rw [Bool.and_eq_true] at t
  have t1 := Nat.le_of_ble_eq_true t.1
  have t2 := Nat.eq_of_beq_eq_true t.2
  obtain ⟨q, hq⟩ : ∃ q, 2 ^ b * 125613361 % 4294967296 / 134217728 = q := ⟨_, rfl⟩
  rw [hq] at t1 t2
  have en : -(x : Int) % 4294967296 = ((4294967296 - x : Nat) : Int) := by omega
  have hidx : bits BinOp.and .u32 (x : Int) (-(x : Int) % 4294967296) * 125613361 % 4294967296 / 134217728 = (q : Int) := by
    rw [en, u32_and x _ hx (by omega), show 4294967296 - x = 2 ^ 32 - x from rfl, low_and (by omega) hb hl, ← hq]
    generalize 2 ^ b = y
    omega
  have hc := ht q (by omega)
  rw [t2] at hc
  have q1 : (q : Int) < 32 := by omega
  have q0 : (0 : Int) ≤ (q : Int) := by omega
  have b0 : (0 : Int) ≤ (b : Int) ∧ (b : Int) < 32 := by omega
  obtain ⟨b1, b2⟩ := b0
  have w1 := wrapk (n := (b : Int)) (by omega)
  clear hb hl ht t t1 t2 hq x0 en hx
  go_enter Tryd.func79, Tryd.ntmps79
  go_wp2
  go_ret
  exact ⟨rfl, rfl⟩

set_option maxHeartbeats 1000000 in
theorem ipoints (x : Nat) (w : World) (hx : x < 4294967296) (ht : Tab w) :
    Calls Tryd.prog 64 #[.int .u32 x] w fun e w' => ∃ v, e = .returned v ∧ Ints w' w.heap.size v (fls 32 (fun n => x.testBit n)) ∧ Below w.heap.size w w' := by
  have hpos0 := ht.pos
  have HS := Lib.hid (fun W => isize x W hx)
  have hc32 := cnt_le (fun i => x.testBit i) 32
  obtain ⟨c, hc⟩ : ∃ c, cnt 32 (fun i => x.testBit i) = c := ⟨_, rfl⟩
  simp only [hc] at HS
  rw [hc] at hc32
  have hmk := fun W : World => run_make_room (P := Tryd.prog) 60 2 (.int .i64 0) 8 Tryd.underlying60 Tryd.infoInt rfl .i64 .i64 c (by omega) (by omega) W
  obtain ⟨B, hB⟩ : ∃ B, w.drew.heap.size = B := ⟨_, rfl⟩
  have hpos : 0 < B := by rw [← hB]; exact hpos0
  obtain ⟨w1, hw1⟩ : ∃ w1, w.drew.alloc (.cells (madeCells #[.int .i64 0] c) 2) = w1 := ⟨_, rfl⟩
  have b1 : Below B w w1 := by rw [← hw1]; exact (show Below B w w.drew from (Below.refl _ _).drew).alloc (by omega) _
  have z1 : w1.heap.size = B + 1 := by rw [← hw1, World.size_alloc, hB]
  have HI : Hid (Ints w1 B (.slice (some ⟨B, 0, none⟩) 0 c) (fls 0 (fun n => x.testBit n))) := by
    unfold Hid
    rw [← hw1, ← hB]
    exact World.ownsRow_made w.drew _ c (Nat.le_refl _) (by unfold maxLen; omega) (by rw [size_madeCells, Nat.mul_one])
  have HT := Lib.hid (fun (y b : Nat) (W : World) (hy : y < 4294967296) (hb : y.testBit b = true) (hl : ∀ i, i < b → y.testBit i = false) (hw : Tab W) => itz y b W hy hb hl hw)
  have TB := Lib.hid ht
  have HE : Hid (B ≤ w1.heap.size) := by rw [z1]; exact Nat.le_succ _
  have HB := Lib.hid b1
  have R0 : Hid (∀ i, x.testBit i = (decide (0 ≤ i) && x.testBit i)) := fun i => by simp
  have HX := Lib.hid hx
  have HWB : Hid (w.heap.size = B) := hB
  clear ht hc hpos0 hc32 b1 z1
  go_enter Tryd.func64, Tryd.ntmps64
  go_wp2_with fail
  refine (HS.out _).mono ?_
  rintro e w2 ⟨rfl, rfl⟩
  go_wp2
  try rw [hw1]
  clear hw1 hmk HS hB
  go_loopw [3, 4] (fun v r wr => ∃ j y : Nat, j ≤ 32 ∧ y < 4294967296 ∧ r = .int .u32 y ∧ Hid (∀ i, y.testBit i = (decide (j ≤ i) && x.testBit i)) ∧ Hid (Ints wr B v (fls j (fun n => x.testBit n))) ∧ Hid (Below B w wr)) (fun _ r _ => (intOf r).toNat)
  case atStart => exact ⟨0, x, by omega, hx, rfl, R0, HI, HB.out⟩
  case round =>
    obtain ⟨j, y, hj, hy, rfl, hR, hI, hBl⟩ := hrel
    have s2 : B ≤ wr.heap.size := by have := hBl.out.size; have := HWB.out; omega
    by_cases c : y = 0
    · have g1 : ((y : Int) != 0) = false := by simp [c]
      have E : Hid (fls 32 (fun n => x.testBit n) = fls j (fun n => x.testBit n)) := by
        refine sorted_ext _ _ (fls_sorted _ _) (fls_sorted _ _) fun z => ?_
        rw [fls_mem, fls_mem]
        constructor
        · rintro ⟨n, h1, h2, rfl⟩
          refine ⟨n, ?_, h2, rfl⟩
          by_cases d : n < j
          · exact d
          · have := hR.out n
            rw [c, Nat.zero_testBit, decide_eq_true (by omega : j ≤ n), h2] at this
            cases this
        · rintro ⟨n, h1, h2, rfl⟩
          exact ⟨n, by omega, h2, rfl⟩
      clear c
      go_wp2
      go_ret
      exact ⟨_, rfl, by rw [HWB.out, E.out]; exact hI.out, by rw [HWB.out]; exact hBl.out⟩
    · have g1 : ((y : Int) != 0) = true := by simp; omega
      obtain ⟨b, hb, hl⟩ := low_ex c
      have b32 := bit_lt (by omega) hb
      obtain ⟨p1, p2⟩ := pred_bits hb hl
      have hjb : j ≤ b ∧ x.testBit b = true := by
        have := hR.out b
        rw [hb] at this
        by_cases d : j ≤ b
        · rw [decide_eq_true d, Bool.true_and] at this; exact ⟨d, this.symm⟩
        · rw [decide_eq_false d] at this; cases this
      have EF : Hid (fls j (fun n => x.testBit n) ++ [(b : Int)] = fls (b + 1) (fun n => x.testBit n)) := by
        unfold Hid
        rw [fls_succ, if_pos hjb.2]
        congr 1
        refine sorted_ext _ _ (fls_sorted _ _) (fls_sorted _ _) fun z => ?_
        rw [fls_mem, fls_mem]
        constructor
        · rintro ⟨n, h1, h2, rfl⟩
          exact ⟨n, by omega, h2, rfl⟩
        · rintro ⟨n, h1, h2, rfl⟩
          refine ⟨n, ?_, h2, rfl⟩
          by_cases d : n < j
          · exact d
          · have := hR.out n
            rw [hl n h1, decide_eq_true (by omega : j ≤ n), h2] at this
            cases this
      have en : bits BinOp.and .u32 (y : Int) ((y : Int) - 1) = ((y &&& (y - 1) : Nat) : Int) := by
        rw [show (y : Int) - 1 = ((y - 1 : Nat) : Int) by omega, u32_and y (y - 1) hy (by omega)]
      have R2 : Hid (∀ i, (y &&& (y - 1)).testBit i = (decide (b + 1 ≤ i) && x.testBit i)) := fun i => by
        rw [Nat.testBit_and]
        rcases Nat.lt_trichotomy i b with d | d | d
        · rw [hl i d, decide_eq_false (by omega : ¬ b + 1 ≤ i)]; rfl
        · subst d; rw [p1, decide_eq_false (by omega : ¬ i + 1 ≤ i)]; simp
        · rw [p2 i d, hR.out i, decide_eq_true (by omega : j ≤ i), decide_eq_true (by omega : b + 1 ≤ i)]; simp
      obtain ⟨z, hz⟩ : ∃ z, y &&& (y - 1) = z := ⟨_, rfl⟩
      have zl : z ≤ y - 1 := by rw [← hz]; exact Nat.and_le_right
      rw [hz] at en R2
      have HZ := Lib.hid (HT.out y b wr hy hb hl (TB.out.below hBl.out hpos))
      have wy : (1 : Int) ≤ (y : Int) := by omega
      have wy2 : (y : Int) ≤ 4294967295 := by omega
      have hlen := fls_len j (fun n => x.testBit n)
      have hlen2 : (fls j (fun n => x.testBit n)).length < 1000000000000 := by omega
      clear c hb hl p1 p2 hz hjb
      go_wp2_with (first | (go_at_call 79; refine HZ.out.mono ?_; rintro e w' ⟨rfl, rfl⟩) | (at_builtin; refine wpList_push wr (by rfl) _ _ (by rfl) B _ _ (by rfl) hI.out (b : Int) _ (by rfl) hlen2 s2 ?_; intro v' w3 hn hb; have HN' := Lib.hid hn; have HB2 := Lib.hid hb; clear hn hb))
      go_roundw
      case rel => exact ⟨b + 1, z, by omega, by omega, rfl, R2, by rw [← EF.out]; exact HN', hBl.out.trans HB2.out⟩
      case measure => simp [intOf]; omega

/-- What an operation on sets makes of bits. -/
def OpOut (op : Bool → Bool → Bool) (x y z : Nat) : Prop := z < 4294967296 ∧ ∀ i, z.testBit i = op (x.testBit i) (y.testBit i)

theorem imeet (x y : Nat) (w : World) (hx : x < 4294967296) (hy : y < 4294967296) :
    Calls Tryd.prog 61 #[.int .u32 x, .int .u32 y] w fun e w' => ∃ z : Nat, e = .returned (.int .u32 z) ∧ OpOut (fun a b => a && b) x y z ∧ w = w' := by
  have e1 := u32_and x y hx hy
  have V : Hid (OpOut (fun a b => a && b) x y (x &&& y)) := ⟨Nat.lt_of_le_of_lt Nat.and_le_left hx, fun i => by
    rw [Nat.testBit_and]⟩
  obtain ⟨z, hz⟩ : ∃ z, x &&& y = z := ⟨_, rfl⟩
  rw [hz] at e1 V
  clear hz hx hy
  go_enter Tryd.func61, Tryd.ntmps61
  go_wp2
  go_ret
  exact ⟨z, rfl, V.out, rfl⟩

/-- The bits of a list. -/
def PsOut (xs : List Int) (s : Nat) : Prop := s < 4294967296 ∧ ∀ n : Nat, s.testBit n = decide ((n : Int) ∈ xs)
def PsAns (xs : List Int) (s : Nat) (ok : Bool) : Prop := (ok = true → PsOut xs s) ∧ s < 4294967296
theorem valid_rises {xs : List Int} (h : validSet xs 32 = true) : Rises 0 31 xs := by
  unfold validSet at h
  simp only [Bool.and_eq_true, decide_eq_true_eq] at h
  exact of_risesB h.2
theorem isingle (t : Nat) (ht : t < 32) (W : World) : Calls Tryd.prog 95 #[.int .i64 t] W fun e w' => e = .returned (.int .u32 ((2 ^ t : Nat) : Int)) ∧ w' = W := by
  have tp : 2 ^ t < 4294967296 := by
    have : 2 ^ t < 2 ^ 32 := Nat.pow_lt_pow_right (by omega) ht
    omega
  have E : Hid ((2 : Int) ^ t % 4294967296 = ((2 ^ t : Nat) : Int)) := by
    have e1 : (2 : Int) ^ t = ((2 ^ t : Nat) : Int) := by rw [Int.natCast_pow]; rfl
    unfold Hid
    rw [e1]
    generalize 2 ^ t = y at tp
    omega
  clear tp
  go_enter Tryd.func95, Tryd.ntmps95
  go_wp2
  go_ret
  exact ⟨by rw [← E.out]; rfl, rfl⟩
set_option maxHeartbeats 1000000 in
theorem ipsOf (xs : List Int) (v : Value) (w : World) (hv : IntsAt w v xs) :
    Calls Tryd.prog 81 #[v] w fun e w' => ∃ s : Nat, e = .returned (.tuple #[.int .u32 s, .bool (validSet xs 32)]) ∧ PsAns xs s (validSet xs 32) ∧ w = w' := by
  have HV := Lib.hid (ivalid w v xs 32 hv)
  obtain ⟨m, hm⟩ : ∃ m, xs.length = m := ⟨_, rfl⟩
  obtain ⟨a, cap, rfl, hc⟩ : ∃ a cap, v = .slice a m cap ∧ ∀ j, j < m → ∃ g off, a = some ⟨g, off, none⟩ ∧ w.cell? ⟨g, off + j, none⟩ = some (.int .i64 (xs.getD j 0)) := by
    obtain ⟨_, ⟨rfl, a, cap, rfl⟩ | ⟨g, off, cap, rfl, hc⟩⟩ := hv
    · rw [← hm]; exact ⟨a, cap, rfl, fun j hj => by simp at hj⟩
    · rw [hm]; exact ⟨_, cap, rfl, fun j hj => ⟨g, off, rfl, hc j (by omega)⟩⟩
  have hml : m ≤ 9223372036854775807 := by rw [← hm]; exact hv.1
  clear hv
  by_cases h : validSet xs 32 = true
  · have hr := valid_rises h
    have BD : Hid (∀ j, j < m → 0 ≤ xs.getD j 0 ∧ xs.getD j 0 ≤ 31) := fun j hj => by
      have := hr j (by omega)
      exact ⟨this.1, this.2.1⟩
    have HC := Lib.hid hc
    have HM := Lib.hid hm
    rw [h] at HV ⊢
    have TK : Hid (∀ j, j < m → xs.take (j + 1) = xs.take j ++ [xs.getD j 0]) := fun j hj => take_getD (by omega)
    have hm32 : m ≤ 32 := by
      have e := set_fls hr
      rw [← hm, e]
      exact fls_len _ _
    clear h hr hc hm hml
    go_enter Tryd.func81, Tryd.ntmps81
    go_wp2_with (go_at_call 80; refine HV.out.mono ?_; rintro e w' ⟨rfl, rfl⟩)
    go_loop [4, 12] (fun s i => ∃ j x : Nat, j ≤ m ∧ x < 4294967296 ∧ s = .int .u32 x ∧ i = .int .i64 j ∧ Hid (PsOut (xs.take j) x)) (fun _ i => m - (intOf i).toNat)
    case atStart => exact ⟨0, 0, by omega, by omega, rfl, rfl, by omega, fun n => by simp⟩
    case round =>
      obtain ⟨j, x, hj, hx, rfl, rfl, hP⟩ := hrel
      by_cases c : j < m
      · have g1 : decide (j < m) = true := by simpa using c
        obtain ⟨b1, b2⟩ := BD.out j c
        obtain ⟨g, off, rfl, cj⟩ := HC.out j c
        obtain ⟨t, ht⟩ : ∃ t : Nat, xs.getD j 0 = t := ⟨(xs.getD j 0).toNat, by omega⟩
        rw [ht] at cj b1 b2
        have TK2 := TK.out j c
        rw [ht] at TK2
        have j0 : (0 : Int) ≤ (j : Int) := by omega
        have j1 : (j : Int) < (m : Int) := by omega
        have w3 := wrapk (n := (j : Int) + 1) (by omega)
        have tl : t < 32 := by omega
        have tp : 2 ^ t < 4294967296 := by
          have : 2 ^ t < 2 ^ 32 := Nat.pow_lt_pow_right (by omega) tl
          omega
        have V : Hid (PsOut (xs.take (j + 1)) (x ||| 2 ^ t)) := by
          refine ⟨Nat.or_lt_two_pow (n := 32) (by omega) (by omega), fun n => ?_⟩
          rw [Nat.testBit_or, hP.out.2 n, Nat.testBit_two_pow, TK2]
          by_cases e : t = n
          · subst e; simp
          · have e2 : ¬ (n : Int) = (t : Int) := by omega
            simp [e, e2]
        obtain ⟨y, hy⟩ : ∃ y, 2 ^ t = y := ⟨_, rfl⟩
        have HSP := Lib.hid (fun W : World => isingle t tl W)
        rw [hy] at V tp
        simp only [hy] at HSP
        have E : Hid (bits BinOp.or .u32 (x : Int) (y : Int) = ((x ||| y : Nat) : Int)) := u32_or x y hx tp
        have VL := V.out.1
        clear ht TK2 tp hy
        go_wp2_with (go_at_call 95; refine (HSP.out _).mono ?_; rintro e w' ⟨rfl, ew⟩; rw [ew]; clear ew)
        go_round
        case rel => exact ⟨j + 1, x ||| y, by omega, VL, ⟨by rw [E.out], by go_num, V⟩⟩
        case measure => simp [intOf]; omega
      · have g1 : decide (j < m) = false := by simpa using c
        have ej : j = m := by omega
        have V : Hid (PsOut xs x) := by
          have := hP.out
          rwa [ej, ← HM.out, List.take_length] at this
        clear ej
        go_wp2
        go_ret2
        exact ⟨x, rfl, ⟨fun _ => V.out, hx⟩, rfl⟩
  · rw [Bool.not_eq_true] at h
    rw [h] at HV ⊢
    clear h hc hm hml
    go_enter Tryd.func81, Tryd.ntmps81
    go_wp2_with (go_at_call 80; refine HV.out.mono ?_; rintro e w' ⟨rfl, rfl⟩)
    go_ret2
    exact ⟨0, rfl, ⟨fun e => (by cases e), by omega⟩, rfl⟩

/-- What is made of two sets. -/
noncomputable def cmbA (op : Bool → Bool → Bool) (xs ys : List Int) : List Int := if (validSet xs 32 && validSet ys 32) = true then fls 32 (fun n => op (decide ((n : Int) ∈ xs)) (decide ((n : Int) ∈ ys))) else []
theorem cmbA_len (op : Bool → Bool → Bool) (xs ys : List Int) : (cmbA op xs ys).length ≤ 32 := by
  unfold cmbA
  split
  · exact fls_len _ _
  · simp
theorem run_enter {P : Program} {f : FuncId} {fn : Func} (hf : P.funcs[f]? = some fn) (hname : (fn.name == "runtime.NumGoroutine") = false) (hb : fn.body.isSome = true) (args : Array Value) (w : World) :
    (callFunc f args).run P w = .ok (.enter f args) w := by
  have h1 : fn.name ≠ "runtime.NumGoroutine" := by simpa using hname
  obtain ⟨c, hc⟩ := Option.isSome_iff_exists.1 hb
  simp [callFunc, hf, h1, hc]

end Go.Proofs.YtdhlnagkhkcoiaaDoor
