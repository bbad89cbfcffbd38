/- Subsets of a rank, by both packages. -/
import Derived.Test.YtocjdjgfadaljaaRk
import Derived.Laws.MakeOwn
namespace Go.Proofs.Ytocjdjgfadaljaa
open Go.RowKit
set_option linter.unusedVariables false

theorem ints_shape {w : World} {B : Nat} {v : Value} {xs : List Int} (h : Ints w B v xs) : ∃ a cap, v = .slice a xs.length cap := by
  obtain ⟨_, ⟨rfl, a, cap, rfl⟩ | ⟨g, off, cap, rfl, hc⟩⟩ := h.at
  · exact ⟨a, cap, rfl⟩
  · exact ⟨_, cap, rfl⟩
/-- The points that are chosen before x, and what is left of the rank. -/
def urS (n k R : Nat) : Nat → List Int × Nat
  | 0 => ([], R)
  | x + 1 => if k ≤ (urS n k R x).1.length then urS n k R x
    else if (urS n k R x).2 < ch (n - 1 - x) (k - 1 - (urS n k R x).1.length) then ((urS n k R x).1 ++ [(x : Int)], (urS n k R x).2)
    else ((urS n k R x).1, (urS n k R x).2 - ch (n - 1 - x) (k - 1 - (urS n k R x).1.length))
theorem urS_stop {n k R x : Nat} (h : k ≤ (urS n k R x).1.length) : ∀ d, urS n k R (x + d) = urS n k R x
  | 0 => rfl
  | d + 1 => by
    have ih := urS_stop h d
    rw [← Nat.add_assoc, urS, ih, if_pos h]
theorem ch_big {n k : Nat} (h : n < k) : ch n k = 0 := by unfold ch; rw [if_neg (by omega)]
theorem urS_inv {n k R : Nat} (hn : n ≤ 32) (hk : k ≤ n) (hR : R < ch n k) : ∀ x, x ≤ n → (urS n k R x).1.length ≤ k ∧ (urS n k R x).2 < ch (n - x) (k - (urS n k R x).1.length) ∧ (urS n k R x).2 ≤ R
  | 0, _ => ⟨Nat.zero_le _, hR, Nat.le_refl _⟩
  | x + 1, hx => by
    obtain ⟨a, b, c⟩ := urS_inv hn hk hR x (by omega)
    rw [urS]
    split
    · rename_i h
      have e : k - (urS n k R x).1.length = 0 := by omega
      rw [e, ch_zero] at b
      exact ⟨a, by rw [e, ch_zero]; exact b, c⟩
    · rename_i h
      obtain ⟨r, hr⟩ : ∃ r, k - (urS n k R x).1.length = r + 1 := ⟨k - (urS n k R x).1.length - 1, by omega⟩
      have hp := ch_pa (n := n - (x + 1)) (k := r) (by omega) (by omega)
      rw [show n - (x + 1) + 1 = n - x by omega] at hp
      rw [hr, hp] at b
      have e1 : n - 1 - x = n - (x + 1) := by omega
      have e2 : k - 1 - (urS n k R x).1.length = r := by omega
      rw [e1, e2]
      split
      · rename_i h2
        refine ⟨?_, ?_, c⟩
        · rw [List.length_append]; simp; omega
        · have e3 : k - ((urS n k R x).1 ++ [(x : Int)]).length = r := by rw [List.length_append]; simp; omega
          rw [e3]; exact h2
      · rename_i h2
        refine ⟨a, ?_, ?_⟩
        · show (urS n k R x).2 - ch (n - (x + 1)) r < ch (n - (x + 1)) (k - (urS n k R x).1.length)
          rw [hr]; omega
        · show (urS n k R x).2 - ch (n - (x + 1)) r ≤ R
          omega
theorem urS_end {n k R : Nat} (hn : n ≤ 32) (hk : k ≤ n) (hR : R < ch n k) : (urS n k R n).1.length = k := by
  obtain ⟨a, b, -⟩ := urS_inv hn hk hR n (Nat.le_refl _)
  by_cases c : (urS n k R n).1.length = k
  · exact c
  · rw [Nat.sub_self, ch_big (by omega)] at b; omega
/-- A round of both loops. -/
theorem urS_round {n k R x L : Nat} {ys : List Int} {q : Nat} (hn : n ≤ 32) (hk : k ≤ n) (hR : R < ch n k) (hx : x ≤ n) (hS : urS n k R x = (ys, q)) (hL : ys.length = L) (hlt : L < k) :
    x < n ∧ k - 1 - L ≤ n - 1 - x ∧ (q < ch (n - 1 - x) (k - 1 - L) → urS n k R (x + 1) = (ys ++ [(x : Int)], q)) ∧ (¬ q < ch (n - 1 - x) (k - 1 - L) → urS n k R (x + 1) = (ys, q - ch (n - 1 - x) (k - 1 - L))) ∧ q ≤ R := by
  have hi := urS_inv hn hk hR x hx
  rw [hS] at hi
  obtain ⟨a, b, c⟩ := hi
  have a' : ys.length ≤ k := a
  have b' : q < ch (n - x) (k - ys.length) := b
  rw [hL] at b'
  have h1 : k - L ≤ n - x := by
    by_cases c : k - L ≤ n - x
    · exact c
    · rw [ch_big (by omega)] at b'; omega
  refine ⟨by omega, by omega, fun h => ?_, fun h => ?_, c⟩
  · rw [urS, hS, if_neg (show ¬ k ≤ ys.length by omega), if_pos (show q < ch (n - 1 - x) (k - 1 - ys.length) by rw [hL]; exact h)]
  · rw [urS, hS, if_neg (show ¬ k ≤ ys.length by omega), if_neg (show ¬ q < ch (n - 1 - x) (k - 1 - ys.length) by rw [hL]; exact h), hL]

set_option maxHeartbeats 2000000 in
theorem ssubset (n k R : Nat) (w : World) (hn : n ≤ 32) (hk : k ≤ n) (hR : R < ch n k) :
    Calls Try.prog 55 #[.int .i64 n, .int .i64 k, .int .i64 R] w fun e w' => ∃ v, e = .returned v ∧ Ints w' w.heap.size v (urS n k R n).1 ∧ Below w.heap.size w w' := by
  have HB := Lib.hid (fun (a b : Nat) (W : World) (h1 : a ≤ 32) (h2 : b ≤ a) => schoose a b W h1 h2)
  have RB : R ≤ 601080390 := by have := ch_le (n := n) (k := k) hn; omega
  have RND := Lib.hid (fun (x L : Nat) (ys : List Int) (q : Nat) (hx : x ≤ n) (hS : urS n k R x = (ys, q)) (hL : ys.length = L) (hlt : L < k) => urS_round hn hk hR hx hS hL hlt)
  have STP : Hid (∀ x ys q, x ≤ n → urS n k R x = (ys, q) → ys.length = k → ys = (urS n k R n).1) := fun x ys q hx hS hl => by
    have := urS_stop (n := n) (k := k) (R := R) (x := x) (by rw [hS]; exact Nat.le_of_eq hl.symm) (n - x)
    rw [show x + (n - x) = n by omega, hS] at this
    rw [this]
  have LN : Hid (∀ x ys q, x ≤ n → urS n k R x = (ys, q) → ys.length ≤ k) := fun x ys q hx hS => by
    have := (urS_inv hn hk hR x hx).1
    rw [hS] at this
    exact this
  clear hR
  go_enter Try.func55, Try.ntmps55
  go_wp2
  obtain ⟨wo, hwo⟩ : ∃ wo, w.alloc (.cells #[] 2) = wo := ⟨_, rfl⟩
  have HI : Hid (Ints wo w.heap.size (.slice (some ⟨w.heap.size, 0, none⟩) 0 0) []) := by rw [← hwo]; exact World.ownsRow_made w #[] 0 (Nat.le_refl _) (by decide) rfl
  have HBl : Hid (Below w.heap.size w wo) := by rw [← hwo]; exact (Below.refl _ _).alloc (Nat.le_refl _) _
  rw [hwo]
  clear hwo
  obtain ⟨B, hB⟩ : ∃ B, w.heap.size = B := ⟨_, rfl⟩
  rw [hB] at HI HBl ⊢
  have HE := Lib.hid hB
  clear hB
  go_loopw [2, 7, 8] (fun r v x wr => ∃ (j q L : Nat) (ys : List Int) (a : Option Addr) (cap : Nat), j ≤ n ∧ L ≤ k ∧ q ≤ 601080390 ∧ r = .int .i64 q ∧ v = .slice a L cap ∧ x = .int .i64 j ∧ Hid (urS n k R j = (ys, q)) ∧ Hid (ys.length = L) ∧ Hid (Ints wr B (.slice a L cap) ys) ∧ Hid (Below B w wr)) (fun _ _ x _ => n - (intOf x).toNat)
  case atStart => exact ⟨0, R, 0, [], _, 0, by omega, by omega, RB, rfl, rfl, rfl, rfl, rfl, HI, HBl⟩
  case round =>
    obtain ⟨j, q, L, ys, a, cap, hj, hL, hq, rfl, rfl, rfl, hS, hY, hI, hBl⟩ := hrel
    by_cases c : L < k
    · obtain ⟨r1, r2, r3, r4, r5⟩ := RND.out j L ys q hj hS.out hY.out c
      have g1 : decide (L < k) = true := by simpa using c
      have g1' : decide ((L : Int) < (k : Int)) = true := by simp; omega
      have g2 : decide (j < n) = true := by simpa using r1
      have g2' : decide ((j : Int) < (n : Int)) = true := by simp; omega
      obtain ⟨b, hb⟩ : ∃ b : Nat, n - 1 - j = b := ⟨_, rfl⟩
      obtain ⟨t, ht⟩ : ∃ t : Nat, k - 1 - L = t := ⟨_, rfl⟩
      have eb : (n : Int) - 1 - (j : Int) = (b : Int) := by omega
      have et : (k : Int) - 1 - (L : Int) = (t : Int) := by omega
      rw [hb, ht] at r3 r4
      obtain ⟨z, hz⟩ : ∃ z, ch b t = z := ⟨_, rfl⟩
      have HZ := Lib.hid (fun W : World => HB.out b t W (by omega) (by omega))
      have zl : z ≤ 601080390 := by rw [← hz]; exact ch_le (by omega)
      rw [hz] at HZ r3 r4
      have R3 := Lib.hid r3
      have R4 := Lib.hid r4
      have w1 := wrapk (n := (n : Int) - 1) (by omega)
      have w2 := wrapk (n := (b : Int)) (by omega)
      have w3 := wrapk (n := (k : Int) - 1) (by omega)
      have w4 := wrapk (n := (t : Int)) (by omega)
      have w5 := wrapk (n := (j : Int) + 1) (by omega)
      have s2 : B ≤ wr.heap.size := by have := hBl.out.size; have := HE.out; omega
      have hlen : ys.length < 1000000000000 := by have := hY.out; omega
      clear hb ht hz r3 r4
      by_cases d : q < z
      · have g3 : decide (q < z) = true := by simpa using d
        have g3' : decide ((q : Int) < (z : Int)) = true := by simp; omega
        have RE := Lib.hid (R3.out d)
        go_wp2_with (first | (go_at_call 54; refine (HZ.out _).mono ?_; rintro e w' ⟨rfl, rfl⟩) | (at_builtin; refine wpList_push _ (by rfl) _ _ (by rfl) B _ _ (by rfl) hI.out (j : Int) _ (by rfl) hlen s2 ?_; intro v' w3 hn hb; obtain ⟨a', cap', rfl⟩ := ints_shape hn; have hl' : (ys ++ [(j : Int)]).length = L + 1 := (by rw [List.length_append, hY.out]; rfl); rw [hl'] at hn ⊢; have HL' := Lib.hid hl'; have HN' := Lib.hid hn; have HB2 := Lib.hid hb; clear hn hb hl'))
        go_roundw
        case rel => exact ⟨j + 1, q, L + 1, _, a', cap', by omega, by omega, hq, rfl, rfl, by go_num, RE, HL', HN', hBl.out.trans HB2.out⟩
        case measure => simp [intOf]; omega
      · have g3 : decide (q < z) = false := by simpa using d
        have g3' : decide ((q : Int) < (z : Int)) = false := by simp; omega
        have RE := Lib.hid (R4.out d)
        have w6 := wrapk (n := (q : Int) - (z : Int)) (by omega)
        go_wp2_with (go_at_call 54; refine (HZ.out _).mono ?_; rintro e w' ⟨rfl, rfl⟩)
        go_roundw
        case rel => exact ⟨j + 1, q - z, L, ys, a, cap, by omega, by omega, by omega, congrArg (Value.int .i64) (by omega), rfl, by go_num, RE, hY, hI, hBl⟩
        case measure => simp [intOf]; omega
    · have g1 : decide (L < k) = false := by simpa using c
      have g1' : decide ((L : Int) < (k : Int)) = false := by simp; omega
      have E := Lib.hid (STP.out j ys q hj hS.out (by have := hY.out; omega))
      go_wp2
      go_ret
      exact ⟨_, rfl, by rw [HE.out, ← E.out]; exact hI.out, by rw [HE.out]; exact hBl.out⟩

/-- When there is such a subset. -/
def okU (n k R : Int) : Prop := 0 ≤ n ∧ n ≤ 32 ∧ 0 ≤ k ∧ k ≤ n ∧ 0 ≤ R ∧ R < (ch n.toNat k.toNat : Nat)
noncomputable def uA (n k R : Int) : List Int := @ite _ (okU n k R) (Classical.propDecidable _) (urS n.toNat k.toNat R.toNat n.toNat).1 []
noncomputable def uE (n k R : Int) : Int := @ite _ (okU n k R) (Classical.propDecidable _) 0 2
theorem uA_no {n k R : Int} (h : ¬ okU n k R) : uA n k R = [] ∧ uE n k R = 2 := by
  unfold uA uE; rw [if_neg h, if_neg h]; exact ⟨rfl, rfl⟩
theorem uA_yes {n k R : Nat} (h : okU n k R) : uA n k R = (urS n k R n).1 ∧ uE n k R = 0 := by
  refine ⟨?_, ?_⟩
  · unfold uA; rw [if_pos h]; simp only [Int.toNat_natCast]
  · unfold uE; rw [if_pos h]
theorem uA_len (n k R : Int) : (uA n k R).length ≤ 32 := by
  by_cases h : okU n k R
  · obtain ⟨n, rfl⟩ : ∃ m : Nat, n = m := ⟨n.toNat, by have := h.1; omega⟩
    obtain ⟨k, rfl⟩ : ∃ m : Nat, k = m := ⟨k.toNat, by have := h.2.2.1; omega⟩
    obtain ⟨R, rfl⟩ : ∃ m : Nat, R = m := ⟨R.toNat, by have := h.2.2.2.2.1; omega⟩
    rw [(uA_yes h).1]
    obtain ⟨h1, h2, h3, h4, h5, h6⟩ := h
    simp only [Int.toNat_natCast] at h6
    rw [urS_end (by omega) (by omega) (by omega)]; omega
  · rw [(uA_no h).1]; simp

set_option maxHeartbeats 1000000 in
theorem sUnrank (n k R : Int) (w : World) :
    Calls Try.prog 29 #[.int .i64 n, .int .i64 k, .int .i64 R] w fun e w' => ∃ v, e = .returned (.tuple #[v, .int .i64 (uE n k R)]) ∧ Ints w' w.heap.size v (uA n k R) ∧ Below w.heap.size w w' := by
  by_cases h1 : 0 ≤ n ∧ n ≤ 32
  · have H1 := Lib.hid (fun W : World => in_yes n 0 32 W h1.1 h1.2)
    by_cases h2 : 0 ≤ k ∧ k ≤ n
    · have H2 := Lib.hid (fun W : World => in_yes k 0 n W h2.1 h2.2)
      obtain ⟨n, rfl⟩ : ∃ m : Nat, n = m := ⟨n.toNat, by omega⟩
      obtain ⟨k, rfl⟩ : ∃ m : Nat, k = m := ⟨k.toNat, by omega⟩
      have HC := Lib.hid (fun W : World => schoose n k W (by omega) (by omega))
      have zl := ch_le (n := n) (k := k) (by omega)
      obtain ⟨z, hz⟩ : ∃ z, ch n k = z := ⟨_, rfl⟩
      rw [hz] at HC zl
      have w1 := wrapk (n := (z : Int) - 1) (by omega)
      by_cases h3 : 0 ≤ R ∧ R < (z : Int)
      · obtain ⟨R, rfl⟩ : ∃ m : Nat, R = m := ⟨R.toNat, by omega⟩
        have H3 := Lib.hid (fun W : World => in_yes R 0 ((z : Int) - 1) W (by omega) (by omega))
        have ok : okU n k R := ⟨by omega, by omega, by omega, by omega, by omega, by simp only [Int.toNat_natCast]; rw [hz]; omega⟩
        have E := Lib.hid (uA_yes ok)
        have HS := Lib.hid (fun W : World => ssubset n k R W (by omega) (by omega) (by rw [hz]; omega))
        clear ok hz h1 h2 h3
        go_enter Try.func29, Try.ntmps29
        go_wp2_with (first | (go_at_call 53; (first | (with_reducible refine (H1.out _).mono ?_) | (with_reducible refine (H2.out _).mono ?_) | (with_reducible refine (H3.out _).mono ?_)); rintro e w' ⟨rfl, rfl⟩) | (go_at_call 54; refine (HC.out _).mono ?_; rintro e w' ⟨rfl, rfl⟩) | (go_at_call 55; refine (HS.out _).mono ?_; rintro e w' ⟨v, rfl, i2, b2⟩; have I2 := Lib.hid i2; have B2 := Lib.hid b2; clear i2 b2))
        go_ret2
        exact ⟨_, by rw [E.out.2]; rfl, by rw [E.out.1]; exact I2.out, B2.out⟩
      · have H3 := Lib.hid (fun W : World => in_no R 0 ((z : Int) - 1) W (by omega))
        have E := Lib.hid (uA_no (n := n) (k := k) (R := R) (fun ok => h3 ⟨ok.2.2.2.2.1, by have := ok.2.2.2.2.2; simp only [Int.toNat_natCast] at this; rw [hz] at this; exact this⟩))
        clear hz h1 h2 h3
        go_enter Try.func29, Try.ntmps29
        go_wp2_with (first | (go_at_call 53; (first | (with_reducible refine (H1.out _).mono ?_) | (with_reducible refine (H2.out _).mono ?_) | (with_reducible refine (H3.out _).mono ?_)); rintro e w' ⟨rfl, rfl⟩) | (go_at_call 54; refine (HC.out _).mono ?_; rintro e w' ⟨rfl, rfl⟩))
        go_ret2
        exact ⟨_, by rw [E.out.2]; rfl, by rw [E.out.1]; exact World.ownsRow_nil _ _ _ _, Below.refl _ _⟩
    · have H2 := Lib.hid (fun W : World => in_no k 0 n W (by omega))
      have E := Lib.hid (uA_no (n := n) (k := k) (R := R) (fun ok => h2 ⟨ok.2.2.1, ok.2.2.2.1⟩))
      clear h1 h2
      go_enter Try.func29, Try.ntmps29
      go_wp2_with (go_at_call 53; (first | (with_reducible refine (H1.out _).mono ?_) | (with_reducible refine (H2.out _).mono ?_)); rintro e w' ⟨rfl, rfl⟩)
      go_ret2
      exact ⟨_, by rw [E.out.2]; rfl, by rw [E.out.1]; exact World.ownsRow_nil _ _ _ _, Below.refl _ _⟩
  · have H1 := Lib.hid (fun W : World => in_no n 0 32 W (by omega))
    have E := Lib.hid (uA_no (n := n) (k := k) (R := R) (fun ok => h1 ⟨ok.1, ok.2.1⟩))
    clear h1
    go_enter Try.func29, Try.ntmps29
    go_wp2_with (go_at_call 53; (with_reducible refine (H1.out _).mono ?_); rintro e w' ⟨rfl, rfl⟩)
    go_ret2
    exact ⟨_, by rw [E.out.2]; rfl, by rw [E.out.1]; exact World.ownsRow_nil _ _ _ _, Below.refl _ _⟩

set_option maxHeartbeats 2000000 in
theorem iUnrank (n k R : Int) (w : World) :
    Calls Try.prog 30 #[.int .i64 n, .int .i64 k, .int .i64 R] w fun e w' => ∃ v, e = .returned (.tuple #[v, .int .i64 (uE n k R)]) ∧ Ints w' w.heap.size v (uA n k R) ∧ Below w.heap.size w w' := by
  by_cases a1 : n < 0
  · have E := Lib.hid (uA_no (n := n) (k := k) (R := R) (fun ok => by have := ok.1; omega))
    go_enter Try.func30, Try.ntmps30
    go_wp2
    go_ret2
    exact ⟨_, by rw [E.out.2]; rfl, by rw [E.out.1]; exact World.ownsRow_nil _ _ _ _, Below.refl _ _⟩
  by_cases a2 : 32 < n
  · have E := Lib.hid (uA_no (n := n) (k := k) (R := R) (fun ok => by have := ok.2.1; omega))
    go_enter Try.func30, Try.ntmps30
    go_wp2
    go_ret2
    exact ⟨_, by rw [E.out.2]; rfl, by rw [E.out.1]; exact World.ownsRow_nil _ _ _ _, Below.refl _ _⟩
  by_cases a3 : k < 0
  · have E := Lib.hid (uA_no (n := n) (k := k) (R := R) (fun ok => by have := ok.2.2.1; omega))
    go_enter Try.func30, Try.ntmps30
    go_wp2
    go_ret2
    exact ⟨_, by rw [E.out.2]; rfl, by rw [E.out.1]; exact World.ownsRow_nil _ _ _ _, Below.refl _ _⟩
  by_cases a4 : n < k
  · have E := Lib.hid (uA_no (n := n) (k := k) (R := R) (fun ok => by have := ok.2.2.2.1; omega))
    go_enter Try.func30, Try.ntmps30
    go_wp2
    go_ret2
    exact ⟨_, by rw [E.out.2]; rfl, by rw [E.out.1]; exact World.ownsRow_nil _ _ _ _, Below.refl _ _⟩
  by_cases a5 : R < 0
  · have E := Lib.hid (uA_no (n := n) (k := k) (R := R) (fun ok => by have := ok.2.2.2.2.1; omega))
    go_enter Try.func30, Try.ntmps30
    go_wp2
    go_ret2
    exact ⟨_, by rw [E.out.2]; rfl, by rw [E.out.1]; exact World.ownsRow_nil _ _ _ _, Below.refl _ _⟩
  obtain ⟨n, rfl⟩ : ∃ m : Nat, n = m := ⟨n.toNat, by omega⟩
  obtain ⟨k, rfl⟩ : ∃ m : Nat, k = m := ⟨k.toNat, by omega⟩
  obtain ⟨R, rfl⟩ : ∃ m : Nat, R = m := ⟨R.toNat, by omega⟩
  have hn : n ≤ 32 := by omega
  have hk : k ≤ n := by omega
  have HB := Lib.hid (fun (a b : Nat) (W : World) (h1 : a ≤ 32) (h2 : b ≤ a) => ibinomial a b W h1 h2)
  have zl0 := ch_le (n := n) (k := k) (by omega)
  have b1 : decide ((n : Int) < 0) = false := by simp
  have b2 : decide ((32 : Int) < (n : Int)) = false := by simp; omega
  have b3 : decide ((k : Int) < 0) = false := by simp
  have b4 : decide ((n : Int) < (k : Int)) = false := by simp; omega
  have b4' : decide (n < k) = false := by simp; omega
  have b5 : decide ((R : Int) < 0) = false := by simp
  by_cases hR : R < ch n k
  · have E := Lib.hid (uA_yes (n := n) (k := k) (R := R) ⟨by omega, by omega, by omega, by omega, by omega, by simp only [Int.toNat_natCast]; omega⟩)
    have HZ0 := Lib.hid (fun W : World => HB.out n k W hn hk)
    have RB : R ≤ 601080390 := by omega
    have RND := Lib.hid (fun (x L : Nat) (ys : List Int) (q : Nat) (hx : x ≤ n) (hS : urS n k R x = (ys, q)) (hL : ys.length = L) (hlt : L < k) => urS_round hn hk hR hx hS hL hlt)
    have STP : Hid (∀ x ys q, x ≤ n → urS n k R x = (ys, q) → ys.length = k → ys = (urS n k R n).1) := fun x ys q hx hS hl => by
      have := urS_stop (n := n) (k := k) (R := R) (x := x) (by rw [hS]; exact Nat.le_of_eq hl.symm) (n - x)
      rw [show x + (n - x) = n by omega, hS] at this
      rw [this]
    obtain ⟨z, hz⟩ : ∃ z, ch n k = z := ⟨_, rfl⟩
    rw [hz] at HZ0 hR zl0
    have c1 : decide ((z : Int) ≤ (R : Int)) = false := by simp; omega
    have c1' : decide (z ≤ R) = false := by simp; omega
    have hmk : ∀ W : World, (Instr.makeSlice 29 (.int .i64 0) (.int .i64 (k : Int))).run Try.prog W = .ok (.slice (some ⟨W.heap.size, 0, none⟩) 0 k) (W.alloc (.cells (madeCells #[.int .i64 0] k) 2)) := fun W => by
      obtain ⟨i0, hi, hz0, hz1, hz2⟩ := info_parts Try.infoInt
      have := run_make (P := Try.prog) W 29 2 i0 (.int .i64 0) Try.underlying29 hi hz0 .i64 .i64 0 k (by omega) (by omega) (by rw [hz2]; omega) (by omega)
      rw [hz1, Nat.mul_one, show (Value.int IntKind.i64 0).cells = #[.int .i64 0] from rfl] at this
      simpa using this
    have hrow0 : Hid (∀ W : World, Ints (W.alloc (.cells (madeCells #[.int .i64 0] k) 2)) W.heap.size (.slice (some ⟨W.heap.size, 0, none⟩) 0 k) []) := fun W => World.ownsRow_made W (madeCells #[.int .i64 0] k) k (Nat.le_refl _) (by unfold maxLen; omega) (by simp [size_madeCells])
    clear hz a1 a2 a3 a4 a5
    go_enter Try.func30, Try.ntmps30
    go_wp2_with (go_at_call 52; refine (HZ0.out _).mono ?_; rintro e w' ⟨rfl, rfl⟩)
    have EE := Lib.hid E.out
    obtain ⟨wo, hwo⟩ : ∃ wo, w.alloc (.cells (madeCells #[.int .i64 0] k) 2) = wo := ⟨_, rfl⟩
    have HI : Hid (Ints wo w.heap.size (.slice (some ⟨w.heap.size, 0, none⟩) 0 k) []) := by rw [← hwo]; exact hrow0.out w
    have HBl : Hid (Below w.heap.size w wo) := by rw [← hwo]; exact (Below.refl _ _).alloc (Nat.le_refl _) _
    rw [hwo]
    clear hwo hmk hrow0 E
    obtain ⟨B, hB⟩ : ∃ B, w.heap.size = B := ⟨_, rfl⟩
    rw [hB] at HI HBl ⊢
    have HE := Lib.hid hB
    clear hB
    go_loopw [2, 8, 9] (fun r v x wr => ∃ (j q L : Nat) (ys : List Int) (a : Option Addr) (cap : Nat), j ≤ n ∧ L ≤ k ∧ q ≤ 601080390 ∧ r = .int .i64 q ∧ v = .slice a L cap ∧ x = .int .i64 j ∧ Hid (urS n k R j = (ys, q)) ∧ Hid (ys.length = L) ∧ Hid (Ints wr B (.slice a L cap) ys) ∧ Hid (Below B w wr)) (fun _ _ x _ => n - (intOf x).toNat)
    case atStart => exact ⟨0, R, 0, [], _, k, by omega, by omega, RB, rfl, rfl, rfl, rfl, rfl, HI, HBl⟩
    case round =>
      obtain ⟨j, q, L, ys, a, cap, hj, hL, hq, rfl, rfl, rfl, hS, hY, hI, hBl⟩ := hrel
      by_cases c : L < k
      · obtain ⟨r1, r2, r3, r4, r5⟩ := RND.out j L ys q hj hS.out hY.out c
        have g1 : decide (L < k) = true := by simpa using c
        have g1' : decide ((L : Int) < (k : Int)) = true := by simp; omega
        have g2 : decide (j < n) = true := by simpa using r1
        have g2' : decide ((j : Int) < (n : Int)) = true := by simp; omega
        obtain ⟨b, hb⟩ : ∃ b : Nat, n - 1 - j = b := ⟨_, rfl⟩
        obtain ⟨t, ht⟩ : ∃ t : Nat, k - 1 - L = t := ⟨_, rfl⟩
        have eb : (n : Int) - 1 - (j : Int) = (b : Int) := by omega
        have et : (k : Int) - 1 - (L : Int) = (t : Int) := by omega
        rw [hb, ht] at r3 r4
        obtain ⟨z, hz⟩ : ∃ z, ch b t = z := ⟨_, rfl⟩
        have HZ := Lib.hid (fun W : World => HB.out b t W (by omega) (by omega))
        have zl : z ≤ 601080390 := by rw [← hz]; exact ch_le (by omega)
        rw [hz] at HZ r3 r4
        have R3 := Lib.hid r3
        have R4 := Lib.hid r4
        have w1 := wrapk (n := (n : Int) - 1) (by omega)
        have w2 := wrapk (n := (b : Int)) (by omega)
        have w3 := wrapk (n := (k : Int) - 1) (by omega)
        have w4 := wrapk (n := (t : Int)) (by omega)
        have w5 := wrapk (n := (j : Int) + 1) (by omega)
        have s2 : B ≤ wr.heap.size := by have := hBl.out.size; have := HE.out; omega
        have hlen : ys.length < 1000000000000 := by have := hY.out; omega
        clear hb ht hz r3 r4
        by_cases d : q < z
        · have g3 : decide (q < z) = true := by simpa using d
          have g3' : decide ((q : Int) < (z : Int)) = true := by simp; omega
          have RE := Lib.hid (R3.out d)
          go_wp2_with (first | (go_at_call 52; refine (HZ.out _).mono ?_; rintro e w' ⟨rfl, rfl⟩) | (at_builtin; refine wpList_push _ (by rfl) _ _ (by rfl) B _ _ (by rfl) hI.out (j : Int) _ (by rfl) hlen s2 ?_; intro v' w3 hn hb; obtain ⟨a', cap', rfl⟩ := ints_shape hn; have hl' : (ys ++ [(j : Int)]).length = L + 1 := (by rw [List.length_append, hY.out]; rfl); rw [hl'] at hn ⊢; have HL' := Lib.hid hl'; have HN' := Lib.hid hn; have HB2 := Lib.hid hb; clear hn hb hl'))
          go_roundw
          case rel => exact ⟨j + 1, q, L + 1, _, a', cap', by omega, by omega, hq, rfl, rfl, by go_num, RE, HL', HN', hBl.out.trans HB2.out⟩
          case measure => simp [intOf]; omega
        · have g3 : decide (q < z) = false := by simpa using d
          have g3' : decide ((q : Int) < (z : Int)) = false := by simp; omega
          have RE := Lib.hid (R4.out d)
          have w6 := wrapk (n := (q : Int) - (z : Int)) (by omega)
          go_wp2_with (go_at_call 52; refine (HZ.out _).mono ?_; rintro e w' ⟨rfl, rfl⟩)
          go_roundw
          case rel => exact ⟨j + 1, q - z, L, ys, a, cap, by omega, by omega, by omega, congrArg (Value.int .i64) (by omega), rfl, by go_num, RE, hY, hI, hBl⟩
          case measure => simp [intOf]; omega
      · have g1 : decide (L < k) = false := by simpa using c
        have g1' : decide ((L : Int) < (k : Int)) = false := by simp; omega
        have E := Lib.hid (STP.out j ys q hj hS.out (by have := hY.out; omega))
        go_wp2
        go_ret2
        exact ⟨_, by rw [EE.out.2]; rfl, by rw [HE.out, EE.out.1, ← E.out]; exact hI.out, by rw [HE.out]; exact hBl.out⟩
  · have E := Lib.hid (uA_no (n := n) (k := k) (R := R) (fun ok => by have := ok.2.2.2.2.2; simp only [Int.toNat_natCast] at this; omega))
    have HZ0 := Lib.hid (fun W : World => HB.out n k W hn hk)
    obtain ⟨z, hz⟩ : ∃ z, ch n k = z := ⟨_, rfl⟩
    rw [hz] at HZ0 hR
    have c1 : decide ((z : Int) ≤ (R : Int)) = true := by simp; omega
    have c1' : decide (z ≤ R) = true := by simp; omega
    clear hz hR a1 a2 a3 a4 a5
    go_enter Try.func30, Try.ntmps30
    go_wp2_with (go_at_call 52; refine (HZ0.out _).mono ?_; rintro e w' ⟨rfl, rfl⟩)
    go_ret2
    exact ⟨_, by rw [E.out.2]; rfl, by rw [E.out.1]; exact World.ownsRow_nil _ _ _ _, Below.refl _ _⟩
end Go.Proofs.Ytocjdjgfadaljaa
