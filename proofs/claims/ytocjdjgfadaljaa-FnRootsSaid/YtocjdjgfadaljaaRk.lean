/- Ranks of subsets, by both packages. -/
import Derived.Test.YtocjdjgfadaljaaBin
namespace Go.Proofs.Ytocjdjgfadaljaa
open Go.RowKit
set_option linter.unusedVariables false

/-- The sum of t binomial coefficients from lo on. -/
def inr (n r lo : Nat) : Nat → Nat
  | 0 => 0
  | t + 1 => inr n r lo t + ch (n - 1 - (lo + t)) r
theorem inr_le {n r lo t : Nat} (hn : n ≤ 32) : inr n r lo t ≤ 601080390 * t := by
  induction t with
  | zero => simp [inr]
  | succ t ih =>
    have := ch_le (n := n - 1 - (lo + t)) (k := r) (by omega)
    rw [inr]; omega
def el (xs : List Int) (i : Nat) : Nat := (xs.getD i 0).toNat
def lowOf (xs : List Int) : Nat → Nat
  | 0 => 0
  | i + 1 => el xs i + 1
def rkT (n : Nat) (xs : List Int) : Nat → Nat
  | 0 => 0
  | i + 1 => rkT n xs i + inr n (xs.length - 1 - i) (lowOf xs i) (el xs i - lowOf xs i)
/-- A valid set. -/
structure VSet (n : Nat) (xs : List Int) : Prop where
  n32 : n ≤ 32
  el : ∀ i, i < xs.length → xs.getD i 0 = (el xs i : Nat)
  low : ∀ i, i < xs.length → lowOf xs i ≤ Go.Proofs.Ytocjdjgfadaljaa.el xs i
  top : ∀ i, i < xs.length → Go.Proofs.Ytocjdjgfadaljaa.el xs i + (xs.length - i) ≤ n
theorem vset_of {n : Int} {xs : List Int} (h : validSet xs n = true) : ∃ m : Nat, n = m ∧ VSet m xs := by
  unfold validSet at h
  simp only [Bool.and_eq_true, decide_eq_true_eq] at h
  obtain ⟨⟨h0, h1⟩, h2⟩ := h
  have hr := of_risesB h2
  refine ⟨n.toNat, by omega, by omega, fun i hi => ?_, fun i hi => ?_, fun i hi => ?_⟩
  · have := (hr i hi).1
    unfold Go.Proofs.Ytocjdjgfadaljaa.el; omega
  · cases i with
    | zero => exact Nat.zero_le _
    | succ i =>
      have a1 := (hr (i + 1) hi).2.2 (by omega)
      have a2 := (hr i (by omega)).1
      rw [Nat.add_sub_cancel] at a1
      show Go.Proofs.Ytocjdjgfadaljaa.el xs i + 1 ≤ Go.Proofs.Ytocjdjgfadaljaa.el xs (i + 1)
      unfold Go.Proofs.Ytocjdjgfadaljaa.el; omega
  · have key : ∀ d i, i + d + 1 = xs.length → Go.Proofs.Ytocjdjgfadaljaa.el xs i + (d + 1) ≤ n.toNat := by
      intro d
      induction d with
      | zero =>
        intro i hi
        have a1 := (hr i (by omega)).2.1
        have a2 := (hr i (by omega)).1
        unfold Go.Proofs.Ytocjdjgfadaljaa.el; omega
      | succ d ih =>
        intro i hi
        have a1 := ih (i + 1) (by omega)
        have a2 := (hr (i + 1) (by omega)).2.2 (by omega)
        have a3 := (hr i (by omega)).1
        rw [Nat.add_sub_cancel] at a2
        unfold Go.Proofs.Ytocjdjgfadaljaa.el at a1 ⊢; omega
    have := key (xs.length - 1 - i) i (by omega)
    omega
theorem VSet.len {n : Nat} {xs : List Int} (h : VSet n xs) : xs.length ≤ n := by
  by_cases c : xs.length = 0
  · omega
  · have := h.top 0 (by omega); omega
theorem rkT_le {n : Nat} {xs : List Int} (h : VSet n xs) : ∀ i, i ≤ xs.length → rkT n xs i ≤ 601080390 * 32 * i
  | 0, _ => by simp [rkT]
  | i + 1, hi => by
    have a := rkT_le h i (by omega)
    have b := inr_le (n := n) (r := xs.length - 1 - i) (lo := lowOf xs i) (t := el xs i - lowOf xs i) h.n32
    have c := h.top i (by omega)
    have d := h.n32
    rw [rkT]; omega

set_option maxHeartbeats 2000000 in
theorem srank (n : Nat) (xs : List Int) (v : Value) (w : World) (hv : IntsAt w v xs) (h : VSet n xs) :
    Calls Try.prog 50 #[.int .i64 n, v] w fun e w' => e = .returned (.int .i64 (rkT n xs xs.length : Nat)) ∧ w = w' := by
  have hn := h.n32
  have hln := h.len
  obtain ⟨m, hm⟩ : ∃ m, xs.length = m := ⟨_, rfl⟩
  obtain ⟨a, cap, rfl, hc⟩ : ∃ a cap, v = .slice a m cap ∧ ∀ j, j < m → ∃ g off, a = some ⟨g, off, none⟩ ∧ w.cell? ⟨g, off + j, none⟩ = some (.int .i64 (el xs j : Nat)) := by
    obtain ⟨_, ⟨rfl, a, cap, rfl⟩ | ⟨g, off, cap, rfl, hc⟩⟩ := hv
    · rw [← hm]; exact ⟨a, cap, rfl, fun j hj => by simp at hj⟩
    · rw [hm]; exact ⟨_, cap, rfl, fun j hj => ⟨g, off, rfl, by rw [← h.el j (by omega)]; exact hc j (by omega)⟩⟩
  have HC := Lib.hid hc
  have LO : Hid (∀ i, i < m → lowOf xs i ≤ el xs i) := fun i hi => h.low i (by omega)
  have TP : Hid (∀ i, i < m → el xs i + (m - i) ≤ n) := fun i hi => by have := h.top i (by omega); omega
  have RL : Hid (∀ i, i ≤ m → rkT n xs i ≤ 601080390 * 32 * i) := fun i hi => rkT_le h i (by omega)
  have RS : Hid (∀ i, rkT n xs (i + 1) = rkT n xs i + inr n (m - 1 - i) (lowOf xs i) (el xs i - lowOf xs i)) := fun i => by rw [rkT, hm]
  have HB := Lib.hid (fun (a b : Nat) (W : World) (h1 : a ≤ 32) (h2 : b ≤ a) => schoose a b W h1 h2)
  rw [hm] at hln ⊢
  clear hv h hm hc
  go_enter Try.func50, Try.ntmps50
  go_wp2
  go_loop [5, 6, 8] (fun r l i => ∃ j s o : Nat, j ≤ m ∧ s ≤ 601080390 * 32 * j ∧ o ≤ n ∧ r = .int .i64 s ∧ l = .int .i64 o ∧ i = .int .i64 j ∧ Hid (s = rkT n xs j) ∧ Hid (o = lowOf xs j)) (fun _ _ i => m - (intOf i).toNat)
  case atStart => exact ⟨0, 0, 0, by omega, by omega, by omega, rfl, rfl, rfl, rfl, rfl⟩
  case round =>
    obtain ⟨j, s, o, hj, hs, ho, rfl, rfl, rfl, hS, hO⟩ := hrel
    by_cases c : j < m
    · obtain ⟨g, off, rfl, cj⟩ := HC.out j c
      obtain ⟨x, hx⟩ : ∃ x, el xs j = x := ⟨_, rfl⟩
      have l1 : o ≤ x := by rw [hO.out, ← hx]; exact LO.out j c
      have l2 : x + (m - j) ≤ n := by rw [← hx]; exact TP.out j c
      have R1 := RL.out (j + 1) (by omega)
      rw [RS.out j, hx, ← hS.out, ← hO.out] at R1
      have RE : Hid (s + inr n (m - 1 - j) o (x - o) = rkT n xs (j + 1)) := by unfold Hid; rw [RS.out j, hx, ← hS.out, ← hO.out]
      have OE : Hid (x + 1 = lowOf xs (j + 1)) := by show x + 1 = el xs j + 1; rw [hx]
      rw [hx] at cj
      have j0 : (0 : Int) ≤ (j : Int) := by omega
      have j1 : (j : Int) < (m : Int) := by omega
      have w3 := wrapk (n := (j : Int) + 1) (by omega)
      have w4 := wrapk (n := (x : Int) + 1) (by omega)
      have w5 := wrapk (n := (n : Int) - 1) (by omega)
      have w6 := wrapk (n := (m : Int) - 1) (by omega)
      obtain ⟨r, hr⟩ : ∃ r : Nat, m - 1 - j = r := ⟨_, rfl⟩
      have er : (m : Int) - 1 - (j : Int) = (r : Int) := by omega
      rw [hr] at R1 RE
      have w7 := wrapk (n := (r : Int)) (by omega)
      clear hx hr
      go_wp2
      go_loop [5, 9] (fun r' y => ∃ t u : Nat, t ≤ x - o ∧ u ≤ 601080390 * 1024 ∧ r' = .int .i64 u ∧ y = .int .i64 ((o + t : Nat) : Int) ∧ Hid (u = s + inr n r o t)) (fun _ y => x - (intOf y).toNat)
      case atStart => exact ⟨0, s, by omega, by omega, rfl, rfl, rfl⟩
      case round =>
        obtain ⟨t, u, ht, hu, rfl, rfl, hU⟩ := hrel
        obtain ⟨y, hy⟩ : ∃ y : Nat, o + t = y := ⟨_, rfl⟩
        rw [hy]
        have iu := inr_le (n := n) (r := r) (lo := o) (t := t + 1) hn
        by_cases ct : t < x - o
        · have g1 : decide (y < x) = true := by simp; omega
          have g1' : decide ((y : Int) < (x : Int)) = true := by simp; omega
          obtain ⟨b, hb⟩ : ∃ b : Nat, n - 1 - y = b := ⟨_, rfl⟩
          have eb : (n : Int) - 1 - (y : Int) = (b : Int) := by omega
          have w1 := wrapk (n := (b : Int)) (by omega)
          have w2 := wrapk (n := (y : Int) + 1) (by omega)
          obtain ⟨z, hz⟩ : ∃ z, ch b r = z := ⟨_, rfl⟩
          have zl : z ≤ 601080390 := by rw [← hz]; exact ch_le (by omega)
          have HZ := Lib.hid (fun W : World => HB.out b r W (by omega) (by omega))
          rw [hz] at HZ
          have UE : Hid (u + z = s + inr n r o (t + 1)) := by
            unfold Hid
            rw [inr, hU.out, show n - 1 - (o + t) = b by omega, hz]; omega
          have ul : u + z ≤ 601080390 * 1024 := by rw [UE.out]; omega
          have w8 := wrapk (n := (u : Int) + (z : Int)) (by omega)
          have HY := Lib.hid hy
          clear hy hb hz iu
          go_wp2_with (go_at_call 54; refine (HZ.out _).mono ?_; rintro e w' ⟨rfl, rfl⟩)
          go_round
          case rel => exact ⟨t + 1, u + z, by omega, ul, ⟨by go_num, congrArg (Value.int .i64) (by have := HY.out; omega), UE⟩⟩
          case measure => have := HY.out; simp [intOf]; omega
        · have g1 : decide (y < x) = false := by simp; omega
          have g1' : decide ((y : Int) < (x : Int)) = false := by simp; omega
          have et : t = x - o := by omega
          have UE : Hid (u = rkT n xs (j + 1)) := by unfold Hid; rw [hU.out, et, RE.out]
          have ul : u ≤ 601080390 * 32 * (j + 1) := by rw [hU.out, et]; exact R1
          clear hy et iu
          go_wp2
          go_round
          case rel => exact ⟨j + 1, u, x + 1, by omega, ul, by omega, ⟨rfl, by go_num, by go_num, UE, OE⟩⟩
          case measure => simp [intOf]; omega
    · obtain rfl : j = m := by omega
      go_wp2
      go_ret
      exact ⟨ret_i _ _ (by rw [hS.out]), rfl⟩

/-- What RankSubset answers. -/
noncomputable def rkA (n : Int) (xs : List Int) : Int := if validSet xs n = true then (rkT n.toNat xs xs.length : Nat) else 0
noncomputable def rkE (n : Int) (xs : List Int) : Int := if validSet xs n = true then 0 else 1
theorem sRank (n : Int) (xs : List Int) (v : Value) (w : World) (hv : IntsAt w v xs) :
    Calls Try.prog 25 #[.int .i64 n, v] w fun e w' => e = .returned (.tuple #[.int .i64 (rkA n xs), .int .i64 (rkE n xs)]) ∧ ∃ k, w' = w.drewN k := by
  have HV := Lib.hid (svalid w v xs n hv)
  obtain ⟨a, cap, rfl⟩ : ∃ a cap, v = .slice a xs.length cap := by
    obtain ⟨_, ⟨rfl, a, cap, rfl⟩ | ⟨g, off, cap, rfl, hc⟩⟩ := hv
    · exact ⟨a, cap, rfl⟩
    · exact ⟨_, cap, rfl⟩
  by_cases h : validSet xs n = true
  · obtain ⟨m, rfl, hs⟩ := vset_of h
    have HR := Lib.hid (fun k : Nat => srank m xs _ (w.drewN k) (hv.drewN k) hs)
    have E : Hid (rkA m xs = (rkT m xs xs.length : Nat) ∧ rkE m xs = 0) := by
      refine ⟨?_, ?_⟩
      · unfold rkA; rw [if_pos h]; simp only [Int.toNat_natCast]
      · unfold rkE; rw [if_pos h]
    rw [h] at HV
    clear h hs hv
    go_enter Try.func25, Try.ntmps25
    go_wp2_with (first | (go_at_call 49; refine HV.out.mono ?_; rintro e w' ⟨rfl, k, rfl⟩) | (go_at_call 50; refine (HR.out _).mono ?_; rintro e w' ⟨rfl, rfl⟩))
    go_ret2
    exact ⟨by rw [E.out.1, E.out.2]; rfl, _, rfl⟩
  · have E : Hid (rkA n xs = 0 ∧ rkE n xs = 1) := by
      refine ⟨?_, ?_⟩
      · unfold rkA; rw [if_neg h]
      · unfold rkE; rw [if_neg h]
    rw [Bool.not_eq_true] at h
    rw [h] at HV
    clear h hv
    go_enter Try.func25, Try.ntmps25
    go_wp2_with (go_at_call 49; refine HV.out.mono ?_; rintro e w' ⟨rfl, k, rfl⟩)
    go_ret2
    exact ⟨by rw [E.out.1, E.out.2]; rfl, _, rfl⟩

set_option maxHeartbeats 2000000 in
theorem iRank (n : Int) (xs : List Int) (v : Value) (w : World) (hv : IntsAt w v xs) :
    Calls Try.prog 27 #[.int .i64 n, v] w fun e w' => e = .returned (.tuple #[.int .i64 (rkA n xs), .int .i64 (rkE n xs)]) ∧ w = w' := by
  have HV := Lib.hid (ivalid w v xs n hv)
  obtain ⟨m, hm⟩ : ∃ m, xs.length = m := ⟨_, rfl⟩
  by_cases h : validSet xs n = true
  · obtain ⟨n, rfl, hs⟩ := vset_of h
    have hn := hs.n32
    have hln := hs.len
    have E : Hid (rkA n xs = (rkT n xs xs.length : Nat) ∧ rkE n xs = 0) := by
      refine ⟨?_, ?_⟩
      · unfold rkA; rw [if_pos h]; simp only [Int.toNat_natCast]
      · unfold rkE; rw [if_pos h]
    obtain ⟨a, cap, rfl, hc⟩ : ∃ a cap, v = .slice a m cap ∧ ∀ j, j < m → ∃ g off, a = some ⟨g, off, none⟩ ∧ w.cell? ⟨g, off + j, none⟩ = some (.int .i64 (el xs j : Nat)) := by
      obtain ⟨_, ⟨rfl, a, cap, rfl⟩ | ⟨g, off, cap, rfl, hc⟩⟩ := hv
      · rw [← hm]; exact ⟨a, cap, rfl, fun j hj => by simp at hj⟩
      · rw [hm]; exact ⟨_, cap, rfl, fun j hj => ⟨g, off, rfl, by rw [← hs.el j (by omega)]; exact hc j (by omega)⟩⟩
    have HC := Lib.hid hc
    have LO : Hid (∀ i, i < m → lowOf xs i ≤ el xs i) := fun i hi => hs.low i (by omega)
    have TP : Hid (∀ i, i < m → el xs i + (m - i) ≤ n) := fun i hi => by have := hs.top i (by omega); omega
    have RL : Hid (∀ i, i ≤ m → rkT n xs i ≤ 601080390 * 32 * i) := fun i hi => rkT_le hs i (by omega)
    have RS : Hid (∀ i, rkT n xs (i + 1) = rkT n xs i + inr n (m - 1 - i) (lowOf xs i) (el xs i - lowOf xs i)) := fun i => by rw [rkT, hm]
    have HB := Lib.hid (fun (a b : Nat) (W : World) (h1 : a ≤ 32) (h2 : b ≤ a) => ibinomial a b W h1 h2)
    rw [hm] at hln E
    rw [h] at HV
    clear hv h hm hc hs
    go_enter Try.func27, Try.ntmps27
    go_wp2_with (go_at_call 51; refine HV.out.mono ?_; rintro e w' ⟨rfl, rfl⟩)
    go_loop [6, 7, 8, 20] (fun r l q i => ∃ j s o : Nat, j ≤ m ∧ s ≤ 601080390 * 32 * j ∧ o ≤ n ∧ r = .int .i64 s ∧ l = .int .i64 o ∧ q = .int .i64 ((m : Int) - (j : Int)) ∧ i = .int .i64 j ∧ Hid (s = rkT n xs j) ∧ Hid (o = lowOf xs j)) (fun _ _ _ i => m - (intOf i).toNat)
    case atStart => exact ⟨0, 0, 0, by omega, by omega, by omega, rfl, rfl, congrArg (Value.int .i64) (by omega), rfl, rfl, rfl⟩
    case round =>
      obtain ⟨j, s, o, hj, hs, ho, rfl, rfl, rfl, rfl, hS, hO⟩ := hrel
      by_cases c : j < m
      · obtain ⟨g, off, rfl, cj⟩ := HC.out j c
        obtain ⟨x, hx⟩ : ∃ x, el xs j = x := ⟨_, rfl⟩
        have l1 : o ≤ x := by rw [hO.out, ← hx]; exact LO.out j c
        have l2 : x + (m - j) ≤ n := by rw [← hx]; exact TP.out j c
        have R1 := RL.out (j + 1) (by omega)
        rw [RS.out j, hx, ← hS.out, ← hO.out] at R1
        have RE : Hid (s + inr n (m - 1 - j) o (x - o) = rkT n xs (j + 1)) := by unfold Hid; rw [RS.out j, hx, ← hS.out, ← hO.out]
        have OE : Hid (x + 1 = lowOf xs (j + 1)) := by show x + 1 = el xs j + 1; rw [hx]
        rw [hx] at cj
        have g0 : decide (j < m) = true := by simpa using c
        have j0 : (0 : Int) ≤ (j : Int) := by omega
        have j1 : (j : Int) < (m : Int) := by omega
        have w3 := wrapk (n := (j : Int) + 1) (by omega)
        have w4 := wrapk (n := (x : Int) + 1) (by omega)
        have w5 := wrapk (n := (n : Int) - 1) (by omega)
        obtain ⟨r, hr⟩ : ∃ r : Nat, m - 1 - j = r := ⟨_, rfl⟩
        have er : (m : Int) - (j : Int) - 1 = (r : Int) := by omega
        have er2 : Hid ((r : Int) = (m : Int) - ((j + 1 : Nat) : Int)) := by unfold Hid; omega
        rw [hr] at R1 RE
        have w7 := wrapk (n := (r : Int)) (by omega)
        clear hx hr
        go_wp2
        go_loop [6, 11] (fun r' y => ∃ t u : Nat, t ≤ x - o ∧ u ≤ 601080390 * 1024 ∧ r' = .int .i64 u ∧ y = .int .i64 ((o + t : Nat) : Int) ∧ Hid (u = s + inr n r o t)) (fun _ y => x - (intOf y).toNat)
        case atStart => exact ⟨0, s, by omega, by omega, rfl, rfl, rfl⟩
        case round =>
          obtain ⟨t, u, ht, hu, rfl, rfl, hU⟩ := hrel
          obtain ⟨y, hy⟩ : ∃ y : Nat, o + t = y := ⟨_, rfl⟩
          rw [hy]
          have iu := inr_le (n := n) (r := r) (lo := o) (t := t + 1) hn
          by_cases ct : t < x - o
          · have g1 : decide (y < x) = true := by simp; omega
            have g1' : decide ((y : Int) < (x : Int)) = true := by simp; omega
            obtain ⟨b, hb⟩ : ∃ b : Nat, n - 1 - y = b := ⟨_, rfl⟩
            have eb : (n : Int) - 1 - (y : Int) = (b : Int) := by omega
            have w1 := wrapk (n := (b : Int)) (by omega)
            have w2 := wrapk (n := (y : Int) + 1) (by omega)
            obtain ⟨z, hz⟩ : ∃ z, ch b r = z := ⟨_, rfl⟩
            have zl : z ≤ 601080390 := by rw [← hz]; exact ch_le (by omega)
            have HZ := Lib.hid (fun W : World => HB.out b r W (by omega) (by omega))
            rw [hz] at HZ
            have UE : Hid (u + z = s + inr n r o (t + 1)) := by
              unfold Hid
              rw [inr, hU.out, show n - 1 - (o + t) = b by omega, hz]; omega
            have ul : u + z ≤ 601080390 * 1024 := by rw [UE.out]; omega
            have w8 := wrapk (n := (u : Int) + (z : Int)) (by omega)
            have HY := Lib.hid hy
            clear hy hb hz iu
            go_wp2_with (go_at_call 52; refine (HZ.out _).mono ?_; rintro e w' ⟨rfl, rfl⟩)
            go_round
            case rel => exact ⟨t + 1, u + z, by omega, ul, ⟨by go_num, congrArg (Value.int .i64) (by have := HY.out; omega), UE⟩⟩
            case measure => have := HY.out; simp [intOf]; omega
          · have g1 : decide (y < x) = false := by simp; omega
            have g1' : decide ((y : Int) < (x : Int)) = false := by simp; omega
            have et : t = x - o := by omega
            have UE : Hid (u = rkT n xs (j + 1)) := by unfold Hid; rw [hU.out, et, RE.out]
            have ul : u ≤ 601080390 * 32 * (j + 1) := by rw [hU.out, et]; exact R1
            clear hy et iu
            go_wp2
            go_round
            case rel => exact ⟨j + 1, u, x + 1, by omega, ul, by omega, ⟨rfl, by go_num, by rw [er2.out], by go_num, UE, OE⟩⟩
            case measure => simp [intOf]; omega
      · have g0 : decide (j < m) = false := by simpa using c
        obtain rfl : j = m := by omega
        go_wp2
        go_ret2
        exact ⟨by rw [E.out.1, E.out.2, hS.out]; rfl, rfl⟩
  · have E : Hid (rkA n xs = 0 ∧ rkE n xs = 1) := by
      refine ⟨?_, ?_⟩
      · unfold rkA; rw [if_neg h]
      · unfold rkE; rw [if_neg h]
    rw [Bool.not_eq_true] at h
    rw [h] at HV
    obtain ⟨a, cap, rfl⟩ : ∃ a cap, v = .slice a m cap := by
      obtain ⟨_, ⟨rfl, a, cap, rfl⟩ | ⟨g, off, cap, rfl, hc⟩⟩ := hv
      · rw [← hm]; exact ⟨a, cap, rfl⟩
      · rw [hm]; exact ⟨_, cap, rfl⟩
    clear h hv hm
    go_enter Try.func27, Try.ntmps27
    go_wp2_with (go_at_call 51; refine HV.out.mono ?_; rintro e w' ⟨rfl, rfl⟩)
    go_ret2
    exact ⟨by rw [E.out.1, E.out.2]; rfl, rfl⟩
end Go.Proofs.Ytocjdjgfadaljaa
