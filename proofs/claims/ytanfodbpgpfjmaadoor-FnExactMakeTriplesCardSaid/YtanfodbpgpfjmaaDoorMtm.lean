/- The blocks of the made systems: the model's. -/
import Derived.Test.YtanfodbpgpfjmaaDoorPut
import Derived.Test.YtanfodbpgpfjmaaDoorDso
import Derived.Test.YtanfodbpgpfjmaaDoorHas
namespace Go.Proofs.YtanfodbpgpfjmaaDoor
open Go.RowKit Go.Shelf
set_option linter.unusedVariables false
set_option linter.unusedSimpArgs false

def blk3 (a b c : Int) : List Int := put (put [a] b) c
set_option maxRecDepth 100000 in
set_option maxHeartbeats 1000000 in
theorem s11Block (a b c : Int) (w : World) :
    Calls Tryd.prog 90 #[.int .i64 a, .int .i64 b, .int .i64 c] w fun e w' => ∃ r, e = .returned r ∧ Ints w' w.heap.size r (blk3 a b c) ∧ Below w.heap.size w w' := by
  obtain ⟨B, hB⟩ : ∃ B, w.heap.size = B := ⟨_, rfl⟩
  obtain ⟨w1, hw1⟩ : ∃ w1, w.alloc (.cells #[.int .i64 a] 2) = w1 := ⟨_, rfl⟩
  have b1 : Below B w w1 := by rw [← hw1]; exact (Below.refl _ _).alloc (by omega) _
  have I1 : IntsAt w1 (.slice (some ⟨B, 0, none⟩) 1 1) [a] := ⟨by simp, .inr ⟨B, 0, 1, rfl, fun j hj => by
    have : j = 0 := by simp at hj; omega
    subst this
    rw [← hw1, ← hB]; simp⟩⟩
  have H1 := Lib.hid (sput w1 _ [a] b I1 (by simp))
  have L1 : (put [a] b).length ≤ 1000000 := by have := put_len [a] b; simp at this; omega
  have HP := Lib.hid (fun W u (h : IntsAt W u (put [a] b)) => sput W u (put [a] b) c h L1)
  have HV : Hid (put (put [a] b) c = blk3 a b c) := rfl
  have HB := Lib.hid hB
  have B1 := Lib.hid b1
  have z1 : w1.heap.size = B + 1 := by rw [← hw1, World.size_alloc, hB]
  have Z1 := Lib.hid z1
  clear b1 I1 L1 z1
  go_enter Tryd.func90, Tryd.ntmps90
  go_wp2_with fail
  try rw [hw1]
  refine H1.out.mono ?_
  rintro e w2 ⟨u, rfl, i2, b2⟩
  have H2 := Lib.hid (HP.out w2 u i2.at)
  have B2 : Hid (Below B w w2) := B1.out.trans (b2.mono (by have := Z1.out; omega))
  clear i2 b2
  go_wp2_with fail
  refine H2.out.mono ?_
  rintro e w3 ⟨u3, rfl, i3, b3⟩
  have s2 : B ≤ w2.heap.size := by have := B2.out.size; have := HB.out; omega
  have B3 : Hid (Below B w w3) := B2.out.trans (b3.mono s2)
  have I3 : Hid (Ints w3 B u3 (blk3 a b c)) := Ints.mono (show Ints w3 w2.heap.size u3 (blk3 a b c) from i3) s2
  clear i3 b3
  go_wp2
  go_ret
  exact ⟨_, rfl, by rw [HB.out]; exact I3.out, by rw [HB.out]; exact B3.out⟩

/-! ### Lists of blocks, row by row -/
def r3 (f : Nat → Nat → Nat → List Int) (x y : Nat) : Nat → List (List Int)
  | 0 => []
  | i + 1 => r3 f x y i ++ [f x y i]
def r2 (f : Nat → Nat → Nat → List Int) (x : Nat) : Nat → List (List Int)
  | 0 => []
  | y + 1 => r2 f x y ++ if x < y then r3 f x y 3 else []
theorem r2_low (f : Nat → Nat → Nat → List Int) (x : Nat) : ∀ y, y ≤ x + 1 → r2 f x y = []
  | 0, _ => rfl
  | y + 1, h => by rw [r2, r2_low f x y (by omega), if_neg (by omega)]; rfl
theorem r2_step (f : Nat → Nat → Nat → List Int) {x y : Nat} (h : x < y) : r2 f x (y + 1) = r2 f x y ++ r3 f x y 3 := by rw [r2, if_pos h]
theorem r3_len (f : Nat → Nat → Nat → List Int) (x y : Nat) : ∀ i, (r3 f x y i).length = i
  | 0 => rfl
  | i + 1 => by rw [r3, List.length_append, r3_len f x y i]; rfl
theorem r2_len (f : Nat → Nat → Nat → List Int) (x : Nat) : ∀ y, (r2 f x y).length ≤ 3 * y
  | 0 => Nat.le_refl _
  | y + 1 => by
    have := r2_len f x y
    rw [r2, List.length_append]
    split
    · rw [r3_len]; omega
    · show _ + 0 ≤ _; omega
def upB (n x : Nat) : List Int := blk3 x ((x + n : Nat) : Int) ((x + 2 * n : Nat) : Int)
def boF (t : Nat) (x y i : Nat) : List Int := blk3 ((x + (2 * t + 1) * i : Nat) : Int) ((y + (2 * t + 1) * i : Nat) : Int) (((t + 1) * (x + y) % (2 * t + 1) + (2 * t + 1) * ((i + 1) % 3) : Nat) : Int)
def boL (t : Nat) : Nat → List (List Int)
  | 0 => []
  | x + 1 => (boL t x ++ [upB (2 * t + 1) x]) ++ r2 (boF t) x (2 * t + 1)
theorem boL_len (t : Nat) (ht : t ≤ 4) : ∀ x, x ≤ 9 → (boL t x).length ≤ 28 * x
  | 0, _ => Nat.le_refl _
  | x + 1, h => by
    have a := boL_len t ht x (by omega)
    have b := r2_len (boF t) x (2 * t + 1)
    have : [upB (2 * t + 1) x].length = 1 := rfl
    rw [boL, List.length_append, List.length_append]; omega

set_option maxRecDepth 100000 in
set_option maxHeartbeats 2000000 in
theorem sBose (t : Nat) (ht : t ≤ 4) (w : World) :
    Calls Tryd.prog 53 #[.int .i64 t] w fun e w' => ∃ r, e = .returned r ∧ RowsL w' w.heap.size w'.heap.size r (boL t (2 * t + 1)) ∧ Below w.heap.size w w' := by
  obtain ⟨B, hB⟩ : ∃ B, w.heap.size = B := ⟨_, rfl⟩
  have m2 : (2 : Int) * (t : Int) = ((2 * t : Nat) : Int) := by rw [Int.natCast_mul]; rfl
  have v1 : IntKind.i64.wrap ((2 : Int) * (t : Int)) = ((2 * t : Nat) : Int) := by rw [m2]; exact IntWalk.i64_in _ (by omega)
  have v2 : IntKind.i64.wrap (((2 * t : Nat) : Int) + 1) = ((2 * t + 1 : Nat) : Int) := IntWalk.i64_in _ (by omega)
  have v3 := IntWalk.i64_in ((t : Int) + 1) (by omega)
  have LB := Lib.hid (fun x hx => boL_len t ht x hx)
  have L2 := Lib.hid (fun x y => r2_len (boF t) x y)
  have L3 := Lib.hid (fun x y i => r3_len (boF t) x y i)
  have S1 : Hid (∀ x, boL t (x + 1) = (boL t x ++ [upB (2 * t + 1) x]) ++ r2 (boF t) x (2 * t + 1)) := fun x => rfl
  have S2 := Lib.hid (fun x y (h : x < y) => r2_step (boF t) h)
  have S3 : Hid (∀ x y i, r3 (boF t) x y (i + 1) = r3 (boF t) x y i ++ [boF t x y i]) := fun x y i => rfl
  have S30 : Hid (∀ x y, r3 (boF t) x y 0 = []) := fun x y => rfl
  have S20 : Hid (∀ x, r2 (boF t) x (x + 1) = []) := fun x => r2_low _ x _ (Nat.le_refl _)
  have S10 : Hid (boL t 0 = []) := rfl
  have FV : Hid (∀ x y i, blk3 ((x + (2 * t + 1) * i : Nat) : Int) ((y + (2 * t + 1) * i : Nat) : Int) (((t + 1) * (x + y) % (2 * t + 1) + (2 * t + 1) * ((i + 1) % 3) : Nat) : Int) = boF t x y i) := fun x y i => rfl
  have UV : Hid (∀ x : Nat, blk3 (x : Int) ((x + (2 * t + 1) : Nat) : Int) ((x + 2 * (2 * t + 1) : Nat) : Int) = upB (2 * t + 1) x) := fun x => rfl
  obtain ⟨n2, hn2⟩ : ∃ n2, 2 * t = n2 := ⟨_, rfl⟩
  obtain ⟨n, hn⟩ : ∃ n, 2 * t + 1 = n := ⟨_, rfl⟩
  simp only [hn] at S1 FV UV v2
  rw [hn]
  rw [hn2] at v1 v2
  have n9 : n ≤ 9 := by omega
  have n0 : ¬ (n : Int) = 0 := by omega
  have n0' : ¬ n = 0 := by omega
  have HK := Lib.hid (fun a b c W => s11Block a b c W)
  obtain ⟨f, hf⟩ : ∃ f, boF t = f := ⟨_, rfl⟩
  obtain ⟨g, hg⟩ : ∃ g, boL t = g := ⟨_, rfl⟩
  simp only [hf, hg] at LB L2 L3 S1 S2 S3 S30 S20 S10 FV ⊢
  obtain ⟨w1, hw1⟩ : ∃ w1, w.alloc (.cells #[] 41) = w1 := ⟨_, rfl⟩
  have M0 : Hid (RowsL w1 B w1.heap.size (.slice (some ⟨B, 0, none⟩) 0 0) (g 0)) := by
    have := RowsL.made w B 0 #[] (by omega) (by decide) rfl
    rw [← World.size_alloc w (.cells #[] 41), hw1, hB] at this
    rw [S10.out]; exact this
  have B1 : Hid (Below B w w1) := by rw [← hw1]; exact (Below.refl _ _).alloc (by omega) _
  have HB := Lib.hid hB
  clear m2 hf hg hn hn2
  go_enter Tryd.func53, Tryd.ntmps53
  go_wp2
  try rw [hw1]
  clear hw1 hB
  go_loopw [4, 5] (fun rv i wr => ∃ x : Nat, x ≤ n ∧ i = .int .i64 x ∧ Hid (RowsL wr B wr.heap.size rv (g x)) ∧ Hid (Below B w wr)) (fun _ i _ => n - (intOf i).toNat)
  case atStart => exact ⟨0, by omega, rfl, M0, B1⟩
  case round =>
    obtain ⟨x, hx, rfl, hR, hBl⟩ := hrel
    by_cases c : x < n
    · have k1 : decide (x < n) = true := by simpa using c
      have k1' : decide ((x : Int) < (n : Int)) = true := decide_eq_true (by omega)
      have wx := IntWalk.i64_in ((x : Int) + 1) (by omega)
      have wxn : IntKind.i64.wrap ((x : Int) + (n : Int)) = ((x + n : Nat) : Int) := IntWalk.i64_in _ (by omega)
      have m2n : (2 : Int) * (n : Int) = ((2 * n : Nat) : Int) := by rw [Int.natCast_mul]; rfl
      have w2n : IntKind.i64.wrap ((2 : Int) * (n : Int)) = ((2 * n : Nat) : Int) := by rw [m2n]; exact IntWalk.i64_in _ (by omega)
      have wx2n : IntKind.i64.wrap ((x : Int) + ((2 * n : Nat) : Int)) = ((x + 2 * n : Nat) : Int) := IntWalk.i64_in _ (by omega)
      have KU := Lib.hid (fun W => HK.out (x : Int) ((x + n : Nat) : Int) ((x + 2 * n : Nat) : Int) W)
      simp only [UV.out] at KU
      have lb := LB.out x (by omega)
      have SX := Lib.hid (S1.out x)
      obtain ⟨ub, hub⟩ : ∃ u, upB n x = u := ⟨_, rfl⟩
      simp only [hub] at KU SX
      obtain ⟨q1, hq1⟩ : ∃ q, x + n = q := ⟨_, rfl⟩
      obtain ⟨q2, hq2⟩ : ∃ q, x + 2 * n = q := ⟨_, rfl⟩
      obtain ⟨q3, hq3⟩ : ∃ q, 2 * n = q := ⟨_, rfl⟩
      rw [hq1] at wxn KU
      rw [hq3] at w2n wx2n
      rw [show x + q3 = q2 by omega] at wx2n
      rw [hq2] at KU
      have bz : B ≤ wr.heap.size := by have := hBl.out.size; have := HB.out; omega
      obtain ⟨wq, rfl⟩ : ∃ wq : World, wq = wr := ⟨_, rfl⟩
      clear m2n hub hq1 hq2 hq3
      go_wp2_with fail
      refine (KU.out _).mono ?_
      rintro e w5 ⟨r, rfl, hI, b5⟩
      have R5 := Lib.hid (hR.out.below b5 (Nat.le_refl _))
      have B5 : Hid (Below B w w5) := hBl.out.trans (b5.mono bz)
      obtain ⟨ra, rc, rfl⟩ := hI.len_eq
      have I5 := Lib.hid hI
      clear hI b5
      go_wp2_with (at_builtin; refine wpList_pushR w5 (by rfl) _ _ (by rfl) B wq.heap.size _ _ _ _ (by rfl) R5.out I5.out _ (by rfl) (by omega) bz ?_; intro v' w8 hn hb; have HN := Lib.hid hn; have HB8 := Lib.hid hb; clear hn hb)
      have B8 : Hid (Below B w w8) := B5.out.trans HB8.out
      have M2 : Hid (RowsL w8 B w8.heap.size v' ((g x ++ [ub]) ++ r2 f x (x + 1))) := by unfold Hid; rw [S20.out, List.append_nil]; exact HN.out
      clear HN HB8 B5 I5 R5 wxn w2n wx2n
      go_loopw [4, 6] (fun rv i wr => ∃ y : Nat, x + 1 ≤ y ∧ y ≤ n ∧ i = .int .i64 y ∧ Hid (RowsL wr B wr.heap.size rv ((g x ++ [ub]) ++ r2 f x y)) ∧ Hid (Below B w wr)) (fun _ i _ => n - (intOf i).toNat)
      case atStart => exact ⟨x + 1, by omega, by omega, by go_num, M2, B8⟩
      case round =>
        obtain ⟨y, hy0, hy, rfl, hR2, hBl2⟩ := hrel
        by_cases c2 : y < n
        · have k2 : decide (y < n) = true := by simpa using c2
          have k2' : decide ((y : Int) < (n : Int)) = true := decide_eq_true (by omega)
          have wy := IntWalk.i64_in ((y : Int) + 1) (by omega)
          have wxy : IntKind.i64.wrap ((x : Int) + (y : Int)) = ((x + y : Nat) : Int) := IntWalk.i64_in _ (by omega)
          have pb : (t + 1) * (x + y) ≤ 100 := by
            have h : (t + 1) * (x + y) ≤ 5 * 18 := Nat.mul_le_mul (by omega) (by omega)
            omega
          have pm : ((t : Int) + 1) * ((x + y : Nat) : Int) = (((t + 1) * (x + y) : Nat) : Int) := by rw [Int.natCast_mul]; rfl
          have FX := Lib.hid (fun i => FV.out x y i)
          have SY := Lib.hid (S2.out x y (by omega))
          obtain ⟨xy, hxy⟩ : ∃ q, x + y = q := ⟨_, rfl⟩
          simp only [hxy] at wxy pb pm FX
          obtain ⟨p, hp⟩ : ∃ q, (t + 1) * xy = q := ⟨_, rfl⟩
          simp only [hp] at pb pm FX
          have wp1 := IntWalk.i64_in (p : Int) (by omega)
          have hr : Int.tmod (p : Int) (n : Int) = ((p % n : Nat) : Int) := rfl
          have zl : p % n ≤ 100 := Nat.le_trans (Nat.mod_le _ _) pb
          obtain ⟨z, hz⟩ : ∃ q, p % n = q := ⟨_, rfl⟩
          simp only [hz] at hr zl FX
          have wz := IntWalk.i64_in (z : Int) (by omega)
          have M3 : Hid (RowsL wr B wr.heap.size u4 (((g x ++ [ub]) ++ r2 f x y) ++ r3 f x y 0)) := by unfold Hid; rw [S30.out, List.append_nil]; exact hR2.out
          obtain ⟨wq2, rfl⟩ : ∃ wq : World, wq = wr := ⟨_, rfl⟩
          clear hxy hp hz
          go_wp2
          go_loopw [4, 8] (fun rv i wr => ∃ j : Nat, j ≤ 3 ∧ i = .int .i64 j ∧ Hid (RowsL wr B wr.heap.size rv (((g x ++ [ub]) ++ r2 f x y) ++ r3 f x y j)) ∧ Hid (Below B w wr)) (fun _ i _ => 3 - (intOf i).toNat)
          case atStart => exact ⟨0, by omega, rfl, M3, hBl2⟩
          case round =>
            obtain ⟨j, hj, rfl, hR3, hBl3⟩ := hrel
            by_cases c3 : j < 3
            · have k3 : decide (j < 3) = true := by simpa using c3
              have k3' : decide ((j : Int) < 3) = true := decide_eq_true (by omega)
              have wj := IntWalk.i64_in ((j : Int) + 1) (by omega)
              have pj : n * j ≤ 27 := by
                have h : n * j ≤ 9 * 3 := Nat.mul_le_mul (by omega) (by omega)
                omega
              have mj : (n : Int) * (j : Int) = ((n * j : Nat) : Int) := by rw [Int.natCast_mul]
              have hm : Int.tmod ((j : Int) + 1) 3 = (((j + 1) % 3 : Nat) : Int) := rfl
              have pk : n * ((j + 1) % 3) ≤ 27 := by
                have h : n * ((j + 1) % 3) ≤ 9 * 3 := Nat.mul_le_mul (by omega) (by omega)
                omega
              have mk : (n : Int) * (((j + 1) % 3 : Nat) : Int) = ((n * ((j + 1) % 3) : Nat) : Int) := by rw [Int.natCast_mul]
              have KF := Lib.hid (fun W => HK.out ((x + n * j : Nat) : Int) ((y + n * j : Nat) : Int) ((z + n * ((j + 1) % 3) : Nat) : Int) W)
              have E := FX.out j
              unfold Hid at KF
              simp only [E] at KF
              have KF := Lib.hid KF
              have SJ := Lib.hid (S3.out x y j)
              have l1 := L2.out x y
              have l2 := L3.out x y j
              obtain ⟨fb, hfb⟩ : ∃ q, f x y j = q := ⟨_, rfl⟩
              simp only [hfb] at KF SJ
              obtain ⟨m, hmm⟩ : ∃ q, (j + 1) % 3 = q := ⟨_, rfl⟩
              simp only [hmm] at hm pk mk KF
              obtain ⟨a1, ha1⟩ : ∃ q, n * j = q := ⟨_, rfl⟩
              simp only [ha1] at pj mj KF
              obtain ⟨a2, ha2⟩ : ∃ q, n * m = q := ⟨_, rfl⟩
              simp only [ha2] at pk mk KF
              have m9 : m ≤ 2 := by omega
              have wa1 := IntWalk.i64_in (a1 : Int) (by omega)
              have wa2 := IntWalk.i64_in (a2 : Int) (by omega)
              have wm := IntWalk.i64_in (m : Int) (by omega)
              have wx1 : IntKind.i64.wrap ((x : Int) + (a1 : Int)) = ((x + a1 : Nat) : Int) := IntWalk.i64_in _ (by omega)
              have wy1 : IntKind.i64.wrap ((y : Int) + (a1 : Int)) = ((y + a1 : Nat) : Int) := IntWalk.i64_in _ (by omega)
              have wz1 : IntKind.i64.wrap ((z : Int) + (a2 : Int)) = ((z + a2 : Nat) : Int) := IntWalk.i64_in _ (by omega)
              have gl3 : (((g x ++ [ub]) ++ r2 f x y) ++ r3 f x y j).length < 1000000 := by simp only [List.length_append, List.length_cons, List.length_nil]; omega
              have bz3 : B ≤ wr.heap.size := by have := hBl3.out.size; have := HB.out; omega
              obtain ⟨wq3, rfl⟩ : ∃ wq : World, wq = wr := ⟨_, rfl⟩
              have E := Lib.hid E
              clear ha1 ha2 hfb E
              go_wp2_with fail
              refine (KF.out _).mono ?_
              rintro e w5 ⟨r, rfl, hI, b5⟩
              have R5 := Lib.hid (hR3.out.below b5 (Nat.le_refl _))
              have B5 : Hid (Below B w w5) := hBl3.out.trans (b5.mono bz3)
              obtain ⟨ra, rc, rfl⟩ := hI.len_eq
              have I5 := Lib.hid hI
              clear hI b5
              go_wp2_with (at_builtin; refine wpList_pushR w5 (by rfl) _ _ (by rfl) B wq3.heap.size _ _ _ _ (by rfl) R5.out I5.out _ (by rfl) (by omega) bz3 ?_; intro v' w8 hn hb; have HN := Lib.hid hn; have HB8 := Lib.hid hb; clear hn hb)
              have B8 : Hid (Below B w w8) := B5.out.trans HB8.out
              have M8 : Hid (RowsL w8 B w8.heap.size v' (((g x ++ [ub]) ++ r2 f x y) ++ r3 f x y (j + 1))) := by unfold Hid; rw [SJ.out, ← List.append_assoc]; exact HN.out
              clear HN HB8 B5 I5 R5 wx1 wy1 wz1 wa1 wa2 wm
              go_roundw
              case rel => exact ⟨j + 1, by omega, by go_num, M8, B8⟩
              case measure => simp [intOf]; omega
            · have k3 : decide (j < 3) = false := by simpa using c3
              have k3' : decide ((j : Int) < 3) = false := decide_eq_false (by omega)
              obtain rfl : j = 3 := by omega
              go_wp2
              go_roundw
              case rel => exact ⟨y + 1, by omega, by omega, by go_num, by unfold Hid; rw [SY.out, ← List.append_assoc]; exact hR3.out, hBl3⟩
              case measure => simp [intOf]; omega
        · have k2 : decide (y < n) = false := by simpa using c2
          have k2' : decide ((y : Int) < (n : Int)) = false := decide_eq_false (by omega)
          obtain rfl : y = n := by omega
          go_wp2
          go_roundw
          case rel => exact ⟨x + 1, by omega, by go_num, by unfold Hid; rw [SX.out]; exact hR2.out, hBl2⟩
          case measure => simp [intOf]; omega
    · have k1 : decide (x < n) = false := by simpa using c
      have k1' : decide ((x : Int) < (n : Int)) = false := decide_eq_false (by omega)
      obtain rfl : x = n := by omega
      go_wp2
      go_ret
      exact ⟨_, rfl, by rw [HB.out]; exact hR.out, by rw [HB.out]; exact hBl.out⟩

/-! Skolem's blocks: the model's. -/
section
open Go.RowKit Go.Shelf
set_option linter.unusedVariables false
set_option linter.unusedSimpArgs false

def skqZ (t s : Nat) : Nat := s / 2 + if s % 2 = 1 then t else 0
def skqA (t : Nat) (x y i : Nat) : List Int := blk3 ((3 * (2 * t) : Nat) : Int) ((x + t + 2 * t * i : Nat) : Int) ((x + 2 * t * ((i + 1) % 3) : Nat) : Int)
def skqF (t : Nat) (x y i : Nat) : List Int := blk3 ((x + 2 * t * i : Nat) : Int) ((y + 2 * t * i : Nat) : Int) ((skqZ t ((x + y) % (2 * t)) + 2 * t * ((i + 1) % 3) : Nat) : Int)
def skqL (t : Nat) : Nat → List (List Int)
  | 0 => []
  | x + 1 => (skqL t x ++ [upB (2 * t) x]) ++ r3 (skqA t) x 0 3
def skqM (t : Nat) : Nat → List (List Int)
  | 0 => skqL t t
  | x + 1 => skqM t x ++ r2 (skqF t) x (2 * t)
theorem skqL_len (t : Nat) : ∀ x, (skqL t x).length = 4 * x
  | 0 => rfl
  | x + 1 => by rw [skqL, List.length_append, List.length_append, skqL_len t x, r3_len]; simp; omega
theorem skqM_len (t : Nat) (ht : t ≤ 4) : ∀ x, x ≤ 8 → (skqM t x).length ≤ 16 + 24 * x
  | 0, _ => by rw [skqM, skqL_len]; omega
  | x + 1, h => by
    have a := skqM_len t ht x (by omega)
    have b := r2_len (skqF t) x (2 * t)
    rw [skqM, List.length_append]; omega

set_option maxRecDepth 100000 in
set_option maxHeartbeats 4000000 in
theorem sSkolem (t : Nat) (ht : t ≤ 4) (ht0 : 0 < t) (w : World) :
    Calls Tryd.prog 54 #[.int .i64 t] w fun e w' => ∃ r, e = .returned r ∧ RowsL w' w.heap.size w'.heap.size r (skqM t (2 * t)) ∧ Below w.heap.size w w' := by
  obtain ⟨B, hB⟩ : ∃ B, w.heap.size = B := ⟨_, rfl⟩
  have m2 : (2 : Int) * (t : Int) = ((2 * t : Nat) : Int) := by rw [Int.natCast_mul]; rfl
  have v1 : IntKind.i64.wrap ((2 : Int) * (t : Int)) = ((2 * t : Nat) : Int) := by rw [m2]; exact IntWalk.i64_in _ (by omega)
  have LA := Lib.hid (fun x => skqL_len t x)
  have LB := Lib.hid (fun x hx => skqM_len t ht x hx)
  have L2 := Lib.hid (fun x y => r2_len (skqF t) x y)
  have L3 := Lib.hid (fun x y i => r3_len (skqF t) x y i)
  have L4 := Lib.hid (fun x i => r3_len (skqA t) x 0 i)
  have S1 : Hid (∀ x, skqL t (x + 1) = (skqL t x ++ [upB (2 * t) x]) ++ r3 (skqA t) x 0 3) := fun x => rfl
  have S2 := Lib.hid (fun x y (h : x < y) => r2_step (skqF t) h)
  have S3 : Hid (∀ x y i, r3 (skqF t) x y (i + 1) = r3 (skqF t) x y i ++ [skqF t x y i]) := fun x y i => rfl
  have S4 : Hid (∀ x i, r3 (skqA t) x 0 (i + 1) = r3 (skqA t) x 0 i ++ [skqA t x 0 i]) := fun x i => rfl
  have S5 : Hid (∀ x, skqM t (x + 1) = skqM t x ++ r2 (skqF t) x (2 * t)) := fun x => rfl
  have S30 : Hid (∀ x y, r3 (skqF t) x y 0 = []) := fun x y => rfl
  have S40 : Hid (∀ x, r3 (skqA t) x 0 0 = []) := fun x => rfl
  have S20 : Hid (∀ x, r2 (skqF t) x (x + 1) = []) := fun x => r2_low _ x _ (Nat.le_refl _)
  have S10 : Hid (skqL t 0 = []) := rfl
  have S50 : Hid (skqM t 0 = skqL t t) := rfl
  have FV : Hid (∀ x y i, blk3 ((x + 2 * t * i : Nat) : Int) ((y + 2 * t * i : Nat) : Int) ((skqZ t ((x + y) % (2 * t)) + 2 * t * ((i + 1) % 3) : Nat) : Int) = skqF t x y i) := fun x y i => rfl
  have AV : Hid (∀ x i, blk3 ((3 * (2 * t) : Nat) : Int) ((x + t + 2 * t * i : Nat) : Int) ((x + 2 * t * ((i + 1) % 3) : Nat) : Int) = skqA t x 0 i) := fun x i => rfl
  have UV : Hid (∀ x : Nat, blk3 (x : Int) ((x + 2 * t : Nat) : Int) ((x + 2 * (2 * t) : Nat) : Int) = upB (2 * t) x) := fun x => rfl
  obtain ⟨n, hn⟩ : ∃ n, 2 * t = n := ⟨_, rfl⟩
  simp only [hn] at S1 S5 FV AV UV v1
  rw [hn]
  have n9 : n ≤ 8 := by omega
  have n0 : ¬ (n : Int) = 0 := by omega
  have n0' : ¬ n = 0 := by omega
  have tn : t ≤ n := by omega
  have HK := Lib.hid (fun a b c W => s11Block a b c W)
  obtain ⟨f, hf⟩ : ∃ f, skqF t = f := ⟨_, rfl⟩
  obtain ⟨fa, hfa⟩ : ∃ f, skqA t = f := ⟨_, rfl⟩
  obtain ⟨g, hg⟩ : ∃ g, skqL t = g := ⟨_, rfl⟩
  obtain ⟨gm, hgm⟩ : ∃ g, skqM t = g := ⟨_, rfl⟩
  simp only [hf, hfa, hg, hgm] at LA LB L2 L3 L4 S1 S2 S3 S4 S5 S30 S40 S20 S10 S50 FV AV ⊢
  obtain ⟨w1, hw1⟩ : ∃ w1, w.alloc (.cells #[] 41) = w1 := ⟨_, rfl⟩
  have M0 : Hid (RowsL w1 B w1.heap.size (.slice (some ⟨B, 0, none⟩) 0 0) (g 0)) := by
    have := RowsL.made w B 0 #[] (by omega) (by decide) rfl
    rw [← World.size_alloc w (.cells #[] 41), hw1, hB] at this
    rw [S10.out]; exact this
  have B1 : Hid (Below B w w1) := by rw [← hw1]; exact (Below.refl _ _).alloc (by omega) _
  have HB := Lib.hid hB
  clear m2 hf hfa hg hgm hn
  go_enter Tryd.func54, Tryd.ntmps54
  go_wp2
  try rw [hw1]
  clear hw1 hB
  go_loopw [4, 5] (fun rv i wr => ∃ x : Nat, x ≤ t ∧ i = .int .i64 x ∧ Hid (RowsL wr B wr.heap.size rv (g x)) ∧ Hid (Below B w wr)) (fun _ i _ => t - (intOf i).toNat)
  case atStart => exact ⟨0, by omega, rfl, M0, B1⟩
  case round =>
    obtain ⟨x, hx, rfl, hR, hBl⟩ := hrel
    by_cases c : x < t
    · have k1 : decide (x < t) = true := by simpa using c
      have k1' : decide ((x : Int) < (t : Int)) = true := decide_eq_true (by omega)
      have wx := IntWalk.i64_in ((x : Int) + 1) (by omega)
      have wxn : IntKind.i64.wrap ((x : Int) + (n : Int)) = ((x + n : Nat) : Int) := IntWalk.i64_in _ (by omega)
      have m2n : (2 : Int) * (n : Int) = ((2 * n : Nat) : Int) := by rw [Int.natCast_mul]; rfl
      have w2n : IntKind.i64.wrap ((2 : Int) * (n : Int)) = ((2 * n : Nat) : Int) := by rw [m2n]; exact IntWalk.i64_in _ (by omega)
      have wx2n : IntKind.i64.wrap ((x : Int) + ((2 * n : Nat) : Int)) = ((x + 2 * n : Nat) : Int) := IntWalk.i64_in _ (by omega)
      have KU := Lib.hid (fun W => HK.out (x : Int) ((x + n : Nat) : Int) ((x + 2 * n : Nat) : Int) W)
      simp only [UV.out] at KU
      have lb := LA.out x
      have SX := Lib.hid (S1.out x)
      obtain ⟨ub, hub⟩ : ∃ u, upB n x = u := ⟨_, rfl⟩
      simp only [hub] at KU SX
      obtain ⟨q1, hq1⟩ : ∃ q, x + n = q := ⟨_, rfl⟩
      obtain ⟨q2, hq2⟩ : ∃ q, x + 2 * n = q := ⟨_, rfl⟩
      obtain ⟨q3, hq3⟩ : ∃ q, 2 * n = q := ⟨_, rfl⟩
      rw [hq1] at wxn KU
      rw [hq3] at w2n wx2n
      rw [show x + q3 = q2 by omega] at wx2n
      rw [hq2] at KU
      have bz : B ≤ wr.heap.size := by have := hBl.out.size; have := HB.out; omega
      obtain ⟨wq, rfl⟩ : ∃ wq : World, wq = wr := ⟨_, rfl⟩
      clear m2n hub hq1 hq2 hq3
      go_wp2_with fail
      refine (KU.out _).mono ?_
      rintro e w5 ⟨r, rfl, hI, b5⟩
      have R5 := Lib.hid (hR.out.below b5 (Nat.le_refl _))
      have B5 : Hid (Below B w w5) := hBl.out.trans (b5.mono bz)
      obtain ⟨ra, rc, rfl⟩ := hI.len_eq
      have I5 := Lib.hid hI
      clear hI b5
      go_wp2_with (at_builtin; refine wpList_pushR w5 (by rfl) _ _ (by rfl) B wq.heap.size _ _ _ _ (by rfl) R5.out I5.out _ (by rfl) (by omega) bz ?_; intro v' w8 hn hb; have HN := Lib.hid hn; have HB8 := Lib.hid hb; clear hn hb)
      have B8 : Hid (Below B w w8) := B5.out.trans HB8.out
      have M2 : Hid (RowsL w8 B w8.heap.size v' ((g x ++ [ub]) ++ r3 fa x 0 0)) := by unfold Hid; rw [S40.out, List.append_nil]; exact HN.out
      clear HN HB8 B5 I5 R5 wxn w2n wx2n
      go_loopw [4, 6] (fun rv i wr => ∃ j : Nat, j ≤ 3 ∧ i = .int .i64 j ∧ Hid (RowsL wr B wr.heap.size rv ((g x ++ [ub]) ++ r3 fa x 0 j)) ∧ Hid (Below B w wr)) (fun _ i _ => 3 - (intOf i).toNat)
      case atStart => exact ⟨0, by omega, rfl, M2, B8⟩
      case round =>
        obtain ⟨j, hj, rfl, hR3, hBl3⟩ := hrel
        by_cases c3 : j < 3
        · have k3 : decide (j < 3) = true := by simpa using c3
          have k3' : decide ((j : Int) < 3) = true := decide_eq_true (by omega)
          have wj := IntWalk.i64_in ((j : Int) + 1) (by omega)
          have pj : n * j ≤ 27 := by
            have h : n * j ≤ 9 * 3 := Nat.mul_le_mul (by omega) (by omega)
            omega
          have mj : (n : Int) * (j : Int) = ((n * j : Nat) : Int) := by rw [Int.natCast_mul]
          have hm : Int.tmod ((j : Int) + 1) 3 = (((j + 1) % 3 : Nat) : Int) := rfl
          have pk : n * ((j + 1) % 3) ≤ 27 := by
            have h : n * ((j + 1) % 3) ≤ 9 * 3 := Nat.mul_le_mul (by omega) (by omega)
            omega
          have mk : (n : Int) * (((j + 1) % 3 : Nat) : Int) = ((n * ((j + 1) % 3) : Nat) : Int) := by rw [Int.natCast_mul]
          have KF := Lib.hid (fun W => HK.out ((3 * n : Nat) : Int) ((x + t + n * j : Nat) : Int) ((x + n * ((j + 1) % 3) : Nat) : Int) W)
          have E := AV.out x j
          unfold Hid at KF
          simp only [E] at KF
          have KF := Lib.hid KF
          have SJ := Lib.hid (S4.out x j)
          have l1 := L4.out x j
          have l2 := lb
          obtain ⟨fb, hfb⟩ : ∃ q, fa x 0 j = q := ⟨_, rfl⟩
          simp only [hfb] at KF SJ
          obtain ⟨m, hmm⟩ : ∃ q, (j + 1) % 3 = q := ⟨_, rfl⟩
          simp only [hmm] at hm pk mk KF
          obtain ⟨a1, ha1⟩ : ∃ q, n * j = q := ⟨_, rfl⟩
          simp only [ha1] at pj mj KF
          obtain ⟨a2, ha2⟩ : ∃ q, n * m = q := ⟨_, rfl⟩
          simp only [ha2] at pk mk KF
          have m9 : m ≤ 2 := by omega
          have wa1 := IntWalk.i64_in (a1 : Int) (by omega)
          have wa2 := IntWalk.i64_in (a2 : Int) (by omega)
          have wm := IntWalk.i64_in (m : Int) (by omega)
          have m3 : (3 : Int) * (n : Int) = ((3 * n : Nat) : Int) := by rw [Int.natCast_mul]; rfl
          have w3n : IntKind.i64.wrap ((3 : Int) * (n : Int)) = ((3 * n : Nat) : Int) := by rw [m3]; exact IntWalk.i64_in _ (by omega)
          have wxt : IntKind.i64.wrap ((x : Int) + (t : Int)) = ((x + t : Nat) : Int) := IntWalk.i64_in _ (by omega)
          have wx1 : IntKind.i64.wrap (((x + t : Nat) : Int) + (a1 : Int)) = ((x + t + a1 : Nat) : Int) := IntWalk.i64_in _ (by omega)
          have wz1 : IntKind.i64.wrap ((x : Int) + (a2 : Int)) = ((x + a2 : Nat) : Int) := IntWalk.i64_in _ (by omega)
          obtain ⟨n3, hn3⟩ : ∃ q, 3 * n = q := ⟨_, rfl⟩
          obtain ⟨xt, hxt⟩ : ∃ q, x + t = q := ⟨_, rfl⟩
          obtain ⟨xa, hxa⟩ : ∃ q, x + t + a1 = q := ⟨_, rfl⟩
          obtain ⟨xb, hxb⟩ : ∃ q, x + a2 = q := ⟨_, rfl⟩
          rw [hxa] at wx1 KF
          rw [hxb] at wz1 KF
          rw [hxt] at wxt wx1
          rw [hn3] at w3n KF
          have gl3 : ((g x ++ [ub]) ++ r3 fa x 0 j).length < 1000000 := by simp only [List.length_append, List.length_cons, List.length_nil]; omega
          have bz3 : B ≤ wr.heap.size := by have := hBl3.out.size; have := HB.out; omega
          obtain ⟨wq3, rfl⟩ : ∃ wq : World, wq = wr := ⟨_, rfl⟩
          have E := Lib.hid E
          clear ha1 ha2 hfb E m3 hn3 hxt hxa hxb
          go_wp2_with fail
          refine (KF.out _).mono ?_
          rintro e w5 ⟨r, rfl, hI, b5⟩
          have R5 := Lib.hid (hR3.out.below b5 (Nat.le_refl _))
          have B5 : Hid (Below B w w5) := hBl3.out.trans (b5.mono bz3)
          obtain ⟨ra, rc, rfl⟩ := hI.len_eq
          have I5 := Lib.hid hI
          clear hI b5
          go_wp2_with (at_builtin; refine wpList_pushR w5 (by rfl) _ _ (by rfl) B wq3.heap.size _ _ _ _ (by rfl) R5.out I5.out _ (by rfl) (by omega) bz3 ?_; intro v' w8 hn hb; have HN := Lib.hid hn; have HB8 := Lib.hid hb; clear hn hb)
          have B8 : Hid (Below B w w8) := B5.out.trans HB8.out
          have M8 : Hid (RowsL w8 B w8.heap.size v' ((g x ++ [ub]) ++ r3 fa x 0 (j + 1))) := by unfold Hid; rw [SJ.out, ← List.append_assoc]; exact HN.out
          clear HN HB8 B5 I5 R5 wx1 wxt wz1 w3n wa1 wa2 wm
          go_roundw
          case rel => exact ⟨j + 1, by omega, by go_num, M8, B8⟩
          case measure => simp [intOf]; omega
        · have k3 : decide (j < 3) = false := by simpa using c3
          have k3' : decide ((j : Int) < 3) = false := decide_eq_false (by omega)
          obtain rfl : j = 3 := by omega
          go_wp2
          go_roundw
          case rel => exact ⟨x + 1, by omega, by go_num, by unfold Hid; rw [SX.out]; exact hR3.out, hBl3⟩
          case measure => simp [intOf]; omega
    · have k1 : decide (x < t) = false := by simpa using c
      have k1' : decide ((x : Int) < (t : Int)) = false := decide_eq_false (by omega)
      obtain rfl : t = x := by omega
      have M5 : Hid (RowsL wr B wr.heap.size u4 (gm 0)) := by unfold Hid; rw [S50.out]; exact hR.out
      obtain ⟨wz, rfl⟩ : ∃ wz : World, wz = wr := ⟨_, rfl⟩
      go_wp2
      go_loopw [4, 7] (fun rv i wr => ∃ x : Nat, x ≤ n ∧ i = .int .i64 x ∧ Hid (RowsL wr B wr.heap.size rv (gm x)) ∧ Hid (Below B w wr)) (fun _ i _ => n - (intOf i).toNat)
      case atStart => exact ⟨0, by omega, rfl, M5, hBl⟩
      case round =>
        obtain ⟨x, hx, rfl, hR, hBl⟩ := hrel
        by_cases c : x < n
        · have k1 : decide (x < n) = true := by simpa using c
          have k1' : decide ((x : Int) < (n : Int)) = true := decide_eq_true (by omega)
          have wx := IntWalk.i64_in ((x : Int) + 1) (by omega)
          have lb := LB.out x (by omega)
          have SX := Lib.hid (S5.out x)
          have M2 : Hid (RowsL wr B wr.heap.size u4 (gm x ++ r2 f x (x + 1))) := by unfold Hid; rw [S20.out, List.append_nil]; exact hR.out
          obtain ⟨wq, rfl⟩ : ∃ wq : World, wq = wr := ⟨_, rfl⟩
          go_wp2
          go_loopw [4, 8] (fun rv i wr => ∃ y : Nat, x + 1 ≤ y ∧ y ≤ n ∧ i = .int .i64 y ∧ Hid (RowsL wr B wr.heap.size rv (gm x ++ r2 f x y)) ∧ Hid (Below B w wr)) (fun _ i _ => n - (intOf i).toNat)
          case atStart => exact ⟨x + 1, by omega, by omega, by go_num, M2, hBl⟩
          case round =>
            obtain ⟨y, hy0, hy, rfl, hR2, hBl2⟩ := hrel
            by_cases c2 : y < n
            · have k2 : decide (y < n) = true := by simpa using c2
              have k2' : decide ((y : Int) < (n : Int)) = true := decide_eq_true (by omega)
              have wy := IntWalk.i64_in ((y : Int) + 1) (by omega)
              have wxy : IntKind.i64.wrap ((x : Int) + (y : Int)) = ((x + y : Nat) : Int) := IntWalk.i64_in _ (by omega)
              have FX := Lib.hid (fun i => FV.out x y i)
              have SY := Lib.hid (S2.out x y (by omega))
              obtain ⟨xy, hxy⟩ : ∃ q, x + y = q := ⟨_, rfl⟩
              simp only [hxy] at wxy FX
              have hr : Int.tmod (xy : Int) (n : Int) = ((xy % n : Nat) : Int) := rfl
              have sl : xy % n < n := Nat.mod_lt _ (by omega)
              obtain ⟨s, hs⟩ : ∃ q, xy % n = q := ⟨_, rfl⟩
              simp only [hs] at hr sl FX
              have ws := IntWalk.i64_in (s : Int) (by omega)
              have hd : Int.tdiv (s : Int) 2 = ((s / 2 : Nat) : Int) := rfl
              have hq : Int.tmod (s : Int) 2 = ((s % 2 : Nat) : Int) := rfl
              have zd : s / 2 ≤ 4 := by omega
              obtain ⟨h, hh⟩ : ∃ q, s / 2 = q := ⟨_, rfl⟩
              have zz : skqZ t s = h + if s % 2 = 1 then t else 0 := by rw [← hh]; rfl
              rw [hh] at hd zd
              have wd := IntWalk.i64_in (h : Int) (by omega)
              have M3 : Hid (RowsL wr B wr.heap.size u4 ((gm x ++ r2 f x y) ++ r3 f x y 0)) := by unfold Hid; rw [S30.out, List.append_nil]; exact hR2.out
              obtain ⟨z, hz⟩ : ∃ q, skqZ t s = q := ⟨_, rfl⟩
              simp only [hz] at FX zz
              have wz0 : Hid True := trivial
              clear hxy hs hh hz
              have zc : (s % 2 = 1 ∧ z = h + t) ∨ (s % 2 = 0 ∧ z = h) := by
                by_cases c : s % 2 = 1
                · rw [if_pos c] at zz; exact .inl ⟨c, zz⟩
                · rw [if_neg c] at zz; exact .inr ⟨by omega, by omega⟩
              clear zz
              have zl : z ≤ 100 := by omega
              obtain ⟨wq2, rfl⟩ : ∃ wq : World, wq = wr := ⟨_, rfl⟩
              rcases zc with ⟨c9, c8⟩ | ⟨c9, rfl⟩
              · rw [c9] at hq
                have wh : IntKind.i64.wrap ((h : Int) + (t : Int)) = (z : Int) := by rw [c8]; exact IntWalk.i64_in _ (by omega)
                clear c9 c8
                go_wp2
                go_loopw [4, 11] (fun rv i wr => ∃ j : Nat, j ≤ 3 ∧ i = .int .i64 j ∧ Hid (RowsL wr B wr.heap.size rv ((gm x ++ r2 f x y) ++ r3 f x y j)) ∧ Hid (Below B w wr)) (fun _ i _ => 3 - (intOf i).toNat)
                case atStart => exact ⟨0, by omega, rfl, M3, hBl2⟩
                case round =>
                  obtain ⟨j, hj, rfl, hR3, hBl3⟩ := hrel
                  by_cases c3 : j < 3
                  · have k3 : decide (j < 3) = true := by simpa using c3
                    have k3' : decide ((j : Int) < 3) = true := decide_eq_true (by omega)
                    have wj := IntWalk.i64_in ((j : Int) + 1) (by omega)
                    have pj : n * j ≤ 27 := by
                      have h : n * j ≤ 9 * 3 := Nat.mul_le_mul (by omega) (by omega)
                      omega
                    have mj : (n : Int) * (j : Int) = ((n * j : Nat) : Int) := by rw [Int.natCast_mul]
                    have hm : Int.tmod ((j : Int) + 1) 3 = (((j + 1) % 3 : Nat) : Int) := rfl
                    have pk : n * ((j + 1) % 3) ≤ 27 := by
                      have h : n * ((j + 1) % 3) ≤ 9 * 3 := Nat.mul_le_mul (by omega) (by omega)
                      omega
                    have mk : (n : Int) * (((j + 1) % 3 : Nat) : Int) = ((n * ((j + 1) % 3) : Nat) : Int) := by rw [Int.natCast_mul]
                    have KF := Lib.hid (fun W => HK.out ((x + n * j : Nat) : Int) ((y + n * j : Nat) : Int) ((z + n * ((j + 1) % 3) : Nat) : Int) W)
                    have E := FX.out j
                    unfold Hid at KF
                    simp only [E] at KF
                    have KF := Lib.hid KF
                    have SJ := Lib.hid (S3.out x y j)
                    have l1 := L2.out x y
                    have l2 := L3.out x y j
                    obtain ⟨fb, hfb⟩ : ∃ q, f x y j = q := ⟨_, rfl⟩
                    simp only [hfb] at KF SJ
                    obtain ⟨m, hmm⟩ : ∃ q, (j + 1) % 3 = q := ⟨_, rfl⟩
                    simp only [hmm] at hm pk mk KF
                    obtain ⟨a1, ha1⟩ : ∃ q, n * j = q := ⟨_, rfl⟩
                    simp only [ha1] at pj mj KF
                    obtain ⟨a2, ha2⟩ : ∃ q, n * m = q := ⟨_, rfl⟩
                    simp only [ha2] at pk mk KF
                    have m9 : m ≤ 2 := by omega
                    have wa1 := IntWalk.i64_in (a1 : Int) (by omega)
                    have wa2 := IntWalk.i64_in (a2 : Int) (by omega)
                    have wm := IntWalk.i64_in (m : Int) (by omega)
                    have wx1 : IntKind.i64.wrap ((x : Int) + (a1 : Int)) = ((x + a1 : Nat) : Int) := IntWalk.i64_in _ (by omega)
                    have wy1 : IntKind.i64.wrap ((y : Int) + (a1 : Int)) = ((y + a1 : Nat) : Int) := IntWalk.i64_in _ (by omega)
                    clear wh
                    have wz1 : IntKind.i64.wrap ((z : Int) + (a2 : Int)) = ((z + a2 : Nat) : Int) := IntWalk.i64_in _ (by omega)
                    have gl3 : ((gm x ++ r2 f x y) ++ r3 f x y j).length < 1000000 := by simp only [List.length_append, List.length_cons, List.length_nil]; omega
                    have bz3 : B ≤ wr.heap.size := by have := hBl3.out.size; have := HB.out; omega
                    obtain ⟨wq3, rfl⟩ : ∃ wq : World, wq = wr := ⟨_, rfl⟩
                    have E := Lib.hid E
                    clear ha1 ha2 hfb E
                    go_wp2_with fail
                    refine (KF.out _).mono ?_
                    rintro e w5 ⟨r, rfl, hI, b5⟩
                    have R5 := Lib.hid (hR3.out.below b5 (Nat.le_refl _))
                    have B5 : Hid (Below B w w5) := hBl3.out.trans (b5.mono bz3)
                    obtain ⟨ra, rc, rfl⟩ := hI.len_eq
                    have I5 := Lib.hid hI
                    clear hI b5
                    go_wp2_with (at_builtin; refine wpList_pushR w5 (by rfl) _ _ (by rfl) B wq3.heap.size _ _ _ _ (by rfl) R5.out I5.out _ (by rfl) (by omega) bz3 ?_; intro v' w8 hn hb; have HN := Lib.hid hn; have HB8 := Lib.hid hb; clear hn hb)
                    have B8 : Hid (Below B w w8) := B5.out.trans HB8.out
                    have M8 : Hid (RowsL w8 B w8.heap.size v' ((gm x ++ r2 f x y) ++ r3 f x y (j + 1))) := by unfold Hid; rw [SJ.out, ← List.append_assoc]; exact HN.out
                    clear HN HB8 B5 I5 R5 wx1 wy1 wz1 wa1 wa2 wm
                    go_roundw
                    case rel => exact ⟨j + 1, by omega, by go_num, M8, B8⟩
                    case measure => simp [intOf]; omega
                  · have k3 : decide (j < 3) = false := by simpa using c3
                    have k3' : decide ((j : Int) < 3) = false := decide_eq_false (by omega)
                    obtain rfl : j = 3 := by omega
                    go_wp2
                    go_roundw
                    case rel => exact ⟨y + 1, by omega, by omega, by go_num, by unfold Hid; rw [SY.out, ← List.append_assoc]; exact hR3.out, hBl3⟩
                    case measure => simp [intOf]; omega
              · rw [c9] at hq
                have wh : True := trivial
                clear c9
                go_wp2
                go_loopw [4, 11] (fun rv i wr => ∃ j : Nat, j ≤ 3 ∧ i = .int .i64 j ∧ Hid (RowsL wr B wr.heap.size rv ((gm x ++ r2 f x y) ++ r3 f x y j)) ∧ Hid (Below B w wr)) (fun _ i _ => 3 - (intOf i).toNat)
                case atStart => exact ⟨0, by omega, rfl, M3, hBl2⟩
                case round =>
                  obtain ⟨j, hj, rfl, hR3, hBl3⟩ := hrel
                  by_cases c3 : j < 3
                  · have k3 : decide (j < 3) = true := by simpa using c3
                    have k3' : decide ((j : Int) < 3) = true := decide_eq_true (by omega)
                    have wj := IntWalk.i64_in ((j : Int) + 1) (by omega)
                    have pj : n * j ≤ 27 := by
                      have h : n * j ≤ 9 * 3 := Nat.mul_le_mul (by omega) (by omega)
                      omega
                    have mj : (n : Int) * (j : Int) = ((n * j : Nat) : Int) := by rw [Int.natCast_mul]
                    have hm : Int.tmod ((j : Int) + 1) 3 = (((j + 1) % 3 : Nat) : Int) := rfl
                    have pk : n * ((j + 1) % 3) ≤ 27 := by
                      have h : n * ((j + 1) % 3) ≤ 9 * 3 := Nat.mul_le_mul (by omega) (by omega)
                      omega
                    have mk : (n : Int) * (((j + 1) % 3 : Nat) : Int) = ((n * ((j + 1) % 3) : Nat) : Int) := by rw [Int.natCast_mul]
                    have KF := Lib.hid (fun W => HK.out ((x + n * j : Nat) : Int) ((y + n * j : Nat) : Int) ((z + n * ((j + 1) % 3) : Nat) : Int) W)
                    have E := FX.out j
                    unfold Hid at KF
                    simp only [E] at KF
                    have KF := Lib.hid KF
                    have SJ := Lib.hid (S3.out x y j)
                    have l1 := L2.out x y
                    have l2 := L3.out x y j
                    obtain ⟨fb, hfb⟩ : ∃ q, f x y j = q := ⟨_, rfl⟩
                    simp only [hfb] at KF SJ
                    obtain ⟨m, hmm⟩ : ∃ q, (j + 1) % 3 = q := ⟨_, rfl⟩
                    simp only [hmm] at hm pk mk KF
                    obtain ⟨a1, ha1⟩ : ∃ q, n * j = q := ⟨_, rfl⟩
                    simp only [ha1] at pj mj KF
                    obtain ⟨a2, ha2⟩ : ∃ q, n * m = q := ⟨_, rfl⟩
                    simp only [ha2] at pk mk KF
                    have m9 : m ≤ 2 := by omega
                    have wa1 := IntWalk.i64_in (a1 : Int) (by omega)
                    have wa2 := IntWalk.i64_in (a2 : Int) (by omega)
                    have wm := IntWalk.i64_in (m : Int) (by omega)
                    have wx1 : IntKind.i64.wrap ((x : Int) + (a1 : Int)) = ((x + a1 : Nat) : Int) := IntWalk.i64_in _ (by omega)
                    have wy1 : IntKind.i64.wrap ((y : Int) + (a1 : Int)) = ((y + a1 : Nat) : Int) := IntWalk.i64_in _ (by omega)
                    clear wh
                    have wz1 : IntKind.i64.wrap ((z : Int) + (a2 : Int)) = ((z + a2 : Nat) : Int) := IntWalk.i64_in _ (by omega)
                    have gl3 : ((gm x ++ r2 f x y) ++ r3 f x y j).length < 1000000 := by simp only [List.length_append, List.length_cons, List.length_nil]; omega
                    have bz3 : B ≤ wr.heap.size := by have := hBl3.out.size; have := HB.out; omega
                    obtain ⟨wq3, rfl⟩ : ∃ wq : World, wq = wr := ⟨_, rfl⟩
                    have E := Lib.hid E
                    clear ha1 ha2 hfb E
                    go_wp2_with fail
                    refine (KF.out _).mono ?_
                    rintro e w5 ⟨r, rfl, hI, b5⟩
                    have R5 := Lib.hid (hR3.out.below b5 (Nat.le_refl _))
                    have B5 : Hid (Below B w w5) := hBl3.out.trans (b5.mono bz3)
                    obtain ⟨ra, rc, rfl⟩ := hI.len_eq
                    have I5 := Lib.hid hI
                    clear hI b5
                    go_wp2_with (at_builtin; refine wpList_pushR w5 (by rfl) _ _ (by rfl) B wq3.heap.size _ _ _ _ (by rfl) R5.out I5.out _ (by rfl) (by omega) bz3 ?_; intro v' w8 hn hb; have HN := Lib.hid hn; have HB8 := Lib.hid hb; clear hn hb)
                    have B8 : Hid (Below B w w8) := B5.out.trans HB8.out
                    have M8 : Hid (RowsL w8 B w8.heap.size v' ((gm x ++ r2 f x y) ++ r3 f x y (j + 1))) := by unfold Hid; rw [SJ.out, ← List.append_assoc]; exact HN.out
                    clear HN HB8 B5 I5 R5 wx1 wy1 wz1 wa1 wa2 wm
                    go_roundw
                    case rel => exact ⟨j + 1, by omega, by go_num, M8, B8⟩
                    case measure => simp [intOf]; omega
                  · have k3 : decide (j < 3) = false := by simpa using c3
                    have k3' : decide ((j : Int) < 3) = false := decide_eq_false (by omega)
                    obtain rfl : j = 3 := by omega
                    go_wp2
                    go_roundw
                    case rel => exact ⟨y + 1, by omega, by omega, by go_num, by unfold Hid; rw [SY.out, ← List.append_assoc]; exact hR3.out, hBl3⟩
                    case measure => simp [intOf]; omega
            · have k2 : decide (y < n) = false := by simpa using c2
              have k2' : decide ((y : Int) < (n : Int)) = false := decide_eq_false (by omega)
              obtain rfl : y = n := by omega
              go_wp2
              go_roundw
              case rel => exact ⟨x + 1, by omega, by go_num, by unfold Hid; rw [SX.out]; exact hR2.out, hBl2⟩
              case measure => simp [intOf]; omega
        · have k1 : decide (x < n) = false := by simpa using c
          have k1' : decide ((x : Int) < (n : Int)) = false := decide_eq_false (by omega)
          obtain rfl : x = n := by omega
          go_wp2
          go_ret
          exact ⟨_, rfl, by rw [HB.out]; exact hR.out, by rw [HB.out]; exact hBl.out⟩
end
end Go.Proofs.YtanfodbpgpfjmaaDoor
