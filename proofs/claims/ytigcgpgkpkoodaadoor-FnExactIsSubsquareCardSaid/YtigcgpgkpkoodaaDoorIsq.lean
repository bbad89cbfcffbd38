/- IsSubsquare: both sides. -/
import Derived.Test.YtigcgpgkpkoodaaDoorQgs
import Derived.Test.YtigcgpgkpkoodaaDoorPs
import Derived.Test.YtigcgpgkpkoodaaDoorWi
import Derived.Test.YtigcgpgkpkoodaaDoorLsq
namespace Go.Proofs.YtigcgpgkpkoodaaDoor
open Go.RowKit Go.Shelf
set_option linter.unusedVariables false

/-- The symbols that were met. -/
def symR (f : Nat → Nat → Int) (x : Nat) (cs : List Int) : Nat → (Nat → Bool) → (Nat → Bool)
  | 0, P => P
  | k + 1, P => updC (symR f x cs k P) (f x (cs.getD k 0).toNat).toNat true
def symS (f : Nat → Nat → Int) (rs cs : List Int) : Nat → (Nat → Bool)
  | 0 => fun _ => false
  | i + 1 => symR f (rs.getD i 0).toNat cs cs.length (symS f rs cs i)
theorem symR_congr {n : Nat} {f g : Nat → Nat → Int} {x : Nat} {cs : List Int} (hx : x < n) (h : ∀ x y, x < n → y < n → f x y = g x y) : ∀ k P, (∀ i, i < k → (cs.getD i 0).toNat < n) → symR f x cs k P = symR g x cs k P
  | 0, P, _ => rfl
  | k + 1, P, hc => by rw [symR, symR, symR_congr hx h k P (fun i hi => hc i (by omega)), h x _ hx (hc k (by omega))]
theorem symS_congr {n : Nat} {f g : Nat → Nat → Int} {rs cs : List Int} (h : ∀ x y, x < n → y < n → f x y = g x y) (hc : ∀ i, i < cs.length → (cs.getD i 0).toNat < n) : ∀ i, (∀ k, k < i → (rs.getD k 0).toNat < n) → symS f rs cs i = symS g rs cs i
  | 0, _ => rfl
  | i + 1, hr => by rw [symS, symS, symS_congr h hc i (fun k hk => hr k (by omega)), symR_congr (hr i (by omega)) h _ _ hc]
noncomputable def IsSubsquare_0 (xss : List (List Int)) (rs cs : List Int) : Bool :=
  sqB xss && (risesB 0 ((xss.length : Int) - 1) rs && (risesB 0 ((xss.length : Int) - 1) cs && (decide (rs.length = cs.length) && (decide (1 ≤ rs.length) && decide ((fls 32 (symS (cellF xss) rs cs rs.length)).length = rs.length)))))
theorem rises_at {lo hi : Int} {xs : List Int} (h : risesB lo hi xs = true) : ∀ i, i < xs.length → lo ≤ xs.getD i 0 ∧ xs.getD i 0 ≤ hi := fun i hi => by
  have := of_risesB h i hi
  exact ⟨this.1, this.2.1⟩

set_option maxRecDepth 100000 in
set_option maxHeartbeats 8000000 in
theorem isyms (n : Nat) (hn : n ≤ 10) (w : World) (F : Nat → Nat → Int) (IQ : InSq n F) (u v : Value) (rs cs : List Int) (hu : IntsAt w u rs) (hv : IntsAt w v cs) (hr : ∀ i, i < rs.length → 0 ≤ rs.getD i 0 ∧ rs.getD i 0 < n) (hc : ∀ i, i < cs.length → 0 ≤ cs.getD i 0 ∧ cs.getD i 0 < n) :
    Calls Tryd.prog 58 #[.agg (iar 101 (sqC n F)), u, v] w fun e w' => ∃ x : Nat, e = .returned (.int .u32 x) ∧ x < 4294967296 ∧ (∀ s, x.testBit s = symS F rs cs rs.length s) ∧ Below w.heap.size w w' := by
  obtain ⟨ra, rk, rfl, K1⟩ := hu.look rfl
  obtain ⟨ca, ck, rfl, K2⟩ := hv.look rfl
  have r63 := hu.1
  have c63 := hv.1
  have HQ := Lib.hid IQ
  have HR := Lib.hid hr
  have HC := Lib.hid hc
  have S0 : Hid (∀ i, symS F rs cs (i + 1) = symR F (rs.getD i 0).toNat cs cs.length (symS F rs cs i)) := fun i => rfl
  have R0 : Hid (∀ x k P, symR F x cs (k + 1) P = updC (symR F x cs k P) (F x (cs.getD k 0).toNat).toNat true) := fun x k P => rfl
  have R1 : Hid (∀ x P, symR F x cs 0 P = P) := fun x P => rfl
  obtain ⟨b, hb⟩ : ∃ b, w.heap.size = b := ⟨_, rfl⟩
  have b1 : Below b w (w.alloc (.cells (iar 101 (sqC n F)) 64)) := (Below.refl _ _).alloc (by omega) _
  have A1 : SqAt (w.alloc (.cells (iar 101 (sqC n F)) 64)) b n F := by unfold SqAt Ia; rw [← hb]; exact heap_alloc_new _ _
  obtain ⟨w1, hw1⟩ : ∃ w1, w.alloc (.cells (iar 101 (sqC n F)) 64) = w1 := ⟨_, rfl⟩
  rw [hw1] at b1 A1
  have HK1 := Lib.hid (fun i hi => K1 w1 (by rw [hb]; exact b1) i hi)
  have HK2 := Lib.hid (fun i hi => K2 w1 (by rw [hb]; exact b1) i hi)
  have CE : Hid (∀ e x, e < n → x < n → w1.cell? ⟨b, 1 + e * 10 + x, none⟩ = some (.int .i64 (F e x))) := fun e x he hx => by
    have := Ia.cell A1 (1 + e * 10 + x) (by omega)
    rwa [sqC_at _ _ (by omega)] at this
  have HB := Lib.hid b1
  rw [hb]
  obtain ⟨l, hl⟩ : ∃ l, rs.length = l := ⟨_, rfl⟩
  obtain ⟨m, hm⟩ : ∃ m, cs.length = m := ⟨_, rfl⟩
  simp only [hl] at HK1 HR r63 ⊢
  simp only [hm] at HK2 HC S0 c63 ⊢
  clear hu hv K1 K2 A1 b1 hr hc IQ hl hm
  go_enter Tryd.func58, Tryd.ntmps58
  go_wp2
  clear hw1 hb
  go_loop [7, 14] (fun s i => ∃ (j x : Nat), j ≤ l ∧ i = .int .i64 j ∧ s = .int .u32 x ∧ x < 4294967296 ∧ Hid (∀ t, x.testBit t = symS F rs cs j t)) (fun _ i => l - (intOf i).toNat)
  case atStart => exact ⟨0, 0, by omega, rfl, rfl, by omega, fun t => by rw [Nat.zero_testBit]; rfl⟩
  case round =>
    obtain ⟨j, x, hj, rfl, rfl, hx, hS⟩ := hrel
    by_cases c : j < l
    · have k1 : decide (j < l) = true := by simpa using c
      have k1' : decide ((j : Int) < (l : Int)) = true := decide_eq_true (by omega)
      have wj := IntWalk.i64_in ((j : Int) + 1) (by omega)
      have j0 : (0 : Int) ≤ (j : Int) := by omega
      have j1 : (j : Int) < (l : Int) := by omega
      obtain ⟨g1, o1, rfl, m1⟩ := HK1.out j c
      have hrj := HR.out j c
      have s0 := S0.out j
      obtain ⟨X, hX⟩ : ∃ X : Nat, rs.getD j 0 = X := ⟨(rs.getD j 0).toNat, by omega⟩
      rw [hX] at m1 hrj s0
      rw [Int.toNat_natCast] at s0
      have HS0 := Lib.hid s0
      have Xn : X < n := by omega
      have X0 : (0 : Int) ≤ (X : Int) := by omega
      have X1 : (X : Int) < 10 := by omega
      have hS1 : Hid (∀ t, x.testBit t = symR F X cs 0 (symS F rs cs j) t) := fun t => by rw [R1.out]; exact hS.out t
      clear hX hrj s0
      go_wp2
      clear m1
      go_loop [7, 20] (fun s i => ∃ (k y : Nat), k ≤ m ∧ i = .int .i64 k ∧ s = .int .u32 y ∧ y < 4294967296 ∧ Hid (∀ t, y.testBit t = symR F X cs k (symS F rs cs j) t)) (fun _ i => m - (intOf i).toNat)
      case atStart => exact ⟨0, x, by omega, rfl, rfl, hx, hS1⟩
      case round =>
        obtain ⟨k, y, hk, rfl, rfl, hy, hT⟩ := hrel
        by_cases c2 : k < m
        · have k2 : decide (k < m) = true := by simpa using c2
          have k2' : decide ((k : Int) < (m : Int)) = true := decide_eq_true (by omega)
          have wk := IntWalk.i64_in ((k : Int) + 1) (by omega)
          have kk0 : (0 : Int) ≤ (k : Int) := by omega
          have kk1 : (k : Int) < (m : Int) := by omega
          obtain ⟨g2, o2, rfl, m2⟩ := HK2.out k c2
          have hck := HC.out k c2
          have r0 := R0.out X k (symS F rs cs j)
          obtain ⟨Y, hY⟩ : ∃ Y : Nat, cs.getD k 0 = Y := ⟨(cs.getD k 0).toNat, by omega⟩
          rw [hY] at m2 hck r0
          rw [Int.toNat_natCast] at r0
          have Yn : Y < n := by omega
          have Y0 : (0 : Int) ≤ (Y : Int) := by omega
          have Y1 : (Y : Int) < 10 := by omega
          have m3 := CE.out X Y Xn Yn
          have iq := HQ.out X Y Xn Yn
          obtain ⟨t, ht⟩ : ∃ t : Nat, F X Y = t := ⟨(F X Y).toNat, by omega⟩
          rw [ht] at m3 r0 iq
          rw [Int.toNat_natCast] at r0
          have t10 : t < 32 := by omega
          have HP := Lib.hid (fun W => isingleb t t10 W)
          have HU := Lib.hid (fun W => iunionb y (2 ^ t) W hy (by have : 2 ^ t < 2 ^ 32 := Nat.pow_lt_pow_right (by omega) t10; omega))
          have zl : y ||| 2 ^ t < 4294967296 := Nat.or_lt_two_pow (n := 32) hy (Nat.pow_lt_pow_right (by omega) t10)
          have T2 : Hid (∀ s, (y ||| 2 ^ t).testBit s = symR F X cs (k + 1) (symS F rs cs j) s) := fun s => by
            rw [r0, Nat.testBit_or, Nat.testBit_two_pow, hT.out]
            unfold updC
            by_cases e : s = t
            · rw [if_pos e, e]; simp
            · rw [if_neg e, decide_eq_false (fun h => e h.symm), Bool.or_false]
          obtain ⟨p, hp⟩ : ∃ p, 2 ^ t = p := ⟨_, rfl⟩
          simp only [hp] at HP HU zl T2
          obtain ⟨z, hz⟩ : ∃ z, y ||| p = z := ⟨_, rfl⟩
          simp only [hz] at HU zl T2
          clear r0 iq hck hY ht hp hz
          go_wp2_with fail
          refine (HP.out _).mono ?_
          rintro e w' ⟨rfl, rfl⟩
          go_wp2_with fail
          refine (HU.out _).mono ?_
          rintro e w'' ⟨rfl, rfl⟩
          go_wp2
          go_round
          case rel => exact ⟨k + 1, z, by omega, by go_num, rfl, zl, T2⟩
          case measure => simp [intOf]; omega
        · have k2 : decide (k < m) = false := by simpa using c2
          have k2' : decide ((k : Int) < (m : Int)) = false := decide_eq_false (by omega)
          obtain rfl : k = m := by omega
          have T2 : Hid (∀ t, y.testBit t = symS F rs cs (j + 1) t) := fun t => by rw [HS0.out]; exact hT.out t
          go_wp2
          go_round
          case rel => exact ⟨j + 1, y, by omega, by go_num, rfl, hy, T2⟩
          case measure => simp [intOf]; omega
    · have k1 : decide (j < l) = false := by simpa using c
      have k1' : decide ((j : Int) < (l : Int)) = false := decide_eq_false (by omega)
      obtain rfl : j = l := by omega
      go_wp2
      go_ret
      exact ⟨x, rfl, hx, hS.out, HB.out⟩
end Go.Proofs.YtigcgpgkpkoodaaDoor
