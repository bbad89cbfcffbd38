/- The binary digits of a number, the highest one first. -/
import Derived.Test.YtmlcdbjibngnkaaEo
namespace Go.Proofs.Ytmlcdbjibngnkaa
open Go.RowKit
set_option linter.unusedVariables false

/-- Turned round as far as t. -/
def rvC (n t : Nat) (c : Co) : Co := fun s => if s < t ∨ n ≤ s + t then c (n - 1 - s) else c s
theorem rvC_zero (n : Nat) (c : Co) : vec n (rvC n 0 c) = vec n c := vec_congr _ _ _ fun i hi => by unfold rvC; rw [if_neg (by omega)]
theorem rvC_succ (n t u : Nat) (c : Co) (hu : t + u + 1 = n) (h : t < u) : vec n (upd (upd (rvC n t c) t (c u)) u (c t)) = vec n (rvC n (t + 1) c) := vec_congr _ _ _ fun i hi => by
  unfold upd rvC
  by_cases e1 : i = u
  · rw [if_pos e1, if_pos (by omega)]
    congr 1; omega
  · rw [if_neg e1]
    by_cases e2 : i = t
    · rw [if_pos e2, if_pos (by omega)]
      congr 1; omega
    · rw [if_neg e2]
      by_cases c : i < t ∨ n ≤ i + t
      · rw [if_pos c, if_pos (by omega)]
      · rw [if_neg c, if_neg (by omega)]
theorem rvC_end (n t : Nat) (c : Co) (h : n ≤ 2 * t + 1) : vec n (rvC n t c) = vec n (fun s => c (n - 1 - s)) := vec_congr _ _ _ fun i hi => by
  unfold rvC
  by_cases e : i < t ∨ n ≤ i + t
  · rw [if_pos e]
  · rw [if_neg e]
    congr 1; omega

set_option maxHeartbeats 1000000 in
theorem reverse_own (n : Nat) (c : Co) (v : Value) (w : World) (B : Nat) (h : Ints w B v (vec n c)) (hn : n ≤ 1000) (hB : B ≤ w.heap.size) :
    Calls Try.prog 108 #[v] w fun e w' => e = .returned (.tuple #[]) ∧ Ints w' B v (vec n (fun s => c (n - 1 - s))) ∧ Below B w w' := by
  by_cases h0 : n = 0
  · subst h0
    obtain ⟨a, cap, rfl⟩ : ∃ a cap, v = .slice a 0 cap := by
      obtain ⟨_, ⟨_, a, cap, e⟩ | ⟨g, off, cap, e, _⟩⟩ := h.at
      · exact ⟨a, cap, e⟩
      · exact ⟨_, cap, e⟩
    have H := Lib.hid h
    clear h
    go_enter Try.func108, Try.ntmps108
    go_wp2
    go_loopw [2, 3] (fun i j wr => i = .int .i64 0 ∧ j = .int .i64 (-1) ∧ wr = w) (fun _ _ _ => 0)
    case atStart => exact ⟨rfl, rfl, rfl⟩
    case round =>
      obtain ⟨rfl, rfl, rfl⟩ := hrel
      go_wp2
      go_end0
      exact ⟨rfl, H.out, Below.refl _ _⟩
  · obtain ⟨g, cap, rfl⟩ := h.form (by rw [vec_length]; omega)
    rw [vec_length] at h ⊢
    have hg := h.base
    have HI : Hid (Ints w B (.slice (some ⟨g, 0, none⟩) n cap) (vec n (rvC n 0 c))) := by rw [rvC_zero]; exact h
    clear h
    go_enter Try.func108, Try.ntmps108
    go_wp2
    go_loopw [2, 3] (fun i j wr => ∃ t u : Nat, t + u + 1 = n ∧ t ≤ u + 1 ∧ i = .int .i64 t ∧ j = .int .i64 u ∧ Hid (Ints wr B (.slice (some ⟨g, 0, none⟩) n cap) (vec n (rvC n t c))) ∧ Hid (Below B w wr)) (fun i _ _ => n - (intOf i).toNat)
    case atStart => exact ⟨0, n - 1, by omega, by omega, rfl, congrArg (Value.int .i64) (by omega), HI, Below.refl _ _⟩
    case round =>
      obtain ⟨t, u, hu, htu, rfl, rfl, hI, hB'⟩ := hrel
      by_cases c0 : t < u
      · have g1 : decide (t < u) = true := by simpa using c0
        have ht : (t : Int) < (n : Int) := by omega
        have hu' : (u : Int) < (n : Int) := by omega
        have ht0 : (0 : Int) ≤ (t : Int) := by omega
        have hu0 : (0 : Int) ≤ (u : Int) := by omega
        have w1 := wrapk' (n := (t : Int) + 1) (by omega)
        have w2 := wrapk' (n := (u : Int) - 1) (by omega)
        have ct : wr.cell? ⟨g, t, none⟩ = some (.int .i64 (c t)) := by
          have := hI.out.cell t (by rw [vec_length]; omega)
          rw [vec_getD _ _ _ (by omega)] at this
          rw [this]; unfold rvC; rw [if_neg (by omega)]
        have cu : wr.cell? ⟨g, u, none⟩ = some (.int .i64 (c u)) := by
          have := hI.out.cell u (by rw [vec_length]; omega)
          rw [vec_getD _ _ _ (by omega)] at this
          rw [this]; unfold rvC; rw [if_neg (by omega)]
        have ft := hI.out.frozen t
        have fu := hI.out.frozen u
        have N1 := hI.out.stored (vec_length _ _) t (c u)
        rw [vec_set] at N1
        have fu1 := N1.frozen u
        have N2 := N1.stored (vec_length _ _) u (c t)
        rw [vec_set, rvC_succ n t u c (by omega) c0] at N2
        have HN2 := Lib.hid N2
        have HB2 : Hid (Below B w ((wr.setCell ⟨g, t, none⟩ (.int .i64 (c u))).setCell ⟨g, u, none⟩ (.int .i64 (c t))).drew) := ((hB'.out.setCell (p := ⟨g, t, none⟩) hg.1 _).setCell (p := ⟨g, u, none⟩) hg.1 _).drew
        have e1 : ¬ t = u := by omega
        have e2 : ¬ u = t := by omega
        clear N1 N2
        go_wp2
        go_region
        go_wp2
        go_roundw
        case rel => exact ⟨t + 1, u - 1, by omega, by omega, by go_num, congrArg (Value.int .i64) (by omega), HN2, HB2⟩
        case measure => simp [intOf]; omega
      · have g1 : decide (t < u) = false := by simpa using c0
        have E : Hid (Ints wr B (.slice (some ⟨g, 0, none⟩) n cap) (vec n (fun s => c (n - 1 - s)))) := by rw [← rvC_end n t c (by omega)]; exact hI.out
        go_wp2
        go_end0
        exact ⟨rfl, E.out, hB'.out⟩

theorem dg2 (N j : Nat) : dg 2 N j = ((N / 2 ^ j % 2 : Nat) : Int) := rfl
set_option maxHeartbeats 1000000 in
theorem bitsTop (N : Nat) (w : World) (hN : N ≤ 9223372036854775807) :
    Calls Try.prog 97 #[.int .i64 N] w fun e w' => ∃ v L, e = .returned v ∧ L ≤ 64 ∧ N < 2 ^ L ∧ Ints w' w.heap.size v (vec L (fun s => dg 2 N (L - 1 - s))) ∧ Below w.heap.size w w' := by
  obtain ⟨B, hB⟩ : ∃ B, w.heap.size = B := ⟨_, rfl⟩
  have hB0 : B ≤ w.heap.size := by omega
  have H0 : Hid (Ints w B (.slice none 0 0) []) := World.ownsRow_nil _ _ _ _
  have HR := Lib.hid (fun (n : Nat) (v : Value) (W : World) (h : Ints W B v (vec n (dg 2 N))) (hn : n ≤ 1000) (hw : B ≤ W.heap.size) => reverse_own n (dg 2 N) v W B h hn hw)
  rw [hB]
  have HE := Lib.hid hB
  clear hB
  go_enter Try.func97, Try.ntmps97
  go_wp2
  go_loopw [0, 3] (fun s v wr => ∃ j q : Nat, j ≤ 64 ∧ s = .int .i64 q ∧ q ≤ N ∧ Hid (N / 2 ^ j = q) ∧ Hid (Ints wr B v (vec j (dg 2 N))) ∧ Hid (Below B w wr)) (fun s _ _ => (intOf s).toNat)
  case atStart => exact ⟨0, N, by omega, rfl, by omega, by unfold Hid; simp, H0, Below.refl _ _⟩
  case round =>
    obtain ⟨j, q, hj, rfl, hq, hQ, hI, hBl⟩ := hrel
    have s2 : B ≤ wr.heap.size := by have := hBl.out.size; omega
    by_cases c : q = 0
    · subst c
      have hlt : Hid (N < 2 ^ j) := by
        unfold Hid
        rcases Nat.div_eq_zero_iff.1 hQ.out with h | h
        · have := Nat.two_pow_pos j; omega
        · exact h
      go_wp2_with (go_at_call 108; refine (HR.out j _ _ hI.out (by omega) s2).mono ?_; rintro e w2 ⟨rfl, i2, b2⟩; have I2 := Lib.hid i2; have B2 := Lib.hid b2; clear i2 b2)
      go_ret
      exact ⟨_, j, rfl, hj, hlt.out, I2.out, hBl.out.trans B2.out⟩
    · have g1 : decide (0 < q) = true := by simp; omega
      have g1' : decide ((0 : Int) < (q : Int)) = true := by simp; omega
      have hj64 : j < 64 := by
        by_cases h : j < 64
        · exact h
        · have e : j = 64 := by omega
          have := hQ.out
          rw [e] at this
          omega
      have V := Lib.hid (show vec j (dg 2 N) ++ [(q : Int) % 2] = vec (j + 1) (dg 2 N) by rw [vec_succ, dg2, hQ.out]; rfl)
      have hlen := vec_length j (dg 2 N)
      go_wp2_with (at_builtin; refine wpList_push wr (by rfl) _ _ (by rfl) B _ _ (by rfl) hI.out ((q : Int) % 2) _ (by rfl) (by omega) s2 ?_; intro v' w1 hn hb; have HN' := Lib.hid hn; have HB2 := Lib.hid hb; clear hn hb)
      go_roundw
      case rel => exact ⟨j + 1, q / 2, by omega, congrArg (Value.int .i64) (by omega), by omega, by unfold Hid; rw [Nat.pow_succ, ← Nat.div_div_eq_div_mul, hQ.out], by rw [← V.out]; exact HN', hBl.out.trans HB2.out⟩
      case measure => simp [intOf]; omega
end Go.Proofs.Ytmlcdbjibngnkaa
