/- Permutations: the model's tests and products. -/
import Derived.Test.YtodlcjdbpibacaaLim
import Derived.Test.YtodlcjdbpibacaaHas
namespace Go.Proofs.Ytodlcjdbpibacaa
open Go.RowKit
set_option linter.unusedVariables false

/-- A permutation, as the model tests it. -/
def okPm (xs : List Int) (i : Nat) : Prop := 0 ≤ xs.getD i 0 ∧ xs.getD i 0 ≤ (xs.length : Int) - 1 ∧ xs.getD i 0 ∉ xs.take i
def IsPm (xs : List Int) : Prop := xs.length ≤ 32 ∧ ∀ i, i < xs.length → okPm xs i
noncomputable def pmB (xs : List Int) : Bool := @decide (IsPm xs) (Classical.propDecidable _)
theorem pmB_true {xs : List Int} (h : IsPm xs) : pmB xs = true := @decide_eq_true _ (Classical.propDecidable _) h
theorem pmB_false {xs : List Int} (h : ¬ IsPm xs) : pmB xs = false := @decide_eq_false _ (Classical.propDecidable _) h
theorem of_pmB {xs : List Int} (h : pmB xs = true) : IsPm xs := @of_decide_eq_true _ (Classical.propDecidable _) h
theorem not_pmB {xs : List Int} (h : pmB xs = false) : ¬ IsPm xs := fun k => by rw [pmB_true k] at h; cases h
theorem prefix_at {w : World} {g off cap j : Nat} {xs : List Int} (hc : ∀ j, j < xs.length → w.cell? ⟨g, off + j, none⟩ = some (.int .i64 (xs.getD j 0))) (hj : j ≤ xs.length) (hl : xs.length ≤ 9223372036854775807) :
    IntsAt w (.slice (some ⟨g, off, none⟩) j cap) (xs.take j) := by
  have e : (xs.take j).length = j := by rw [List.length_take]; omega
  refine ⟨by omega, .inr ⟨g, off, cap, by rw [e], fun k hk => ?_⟩⟩
  rw [e] at hk
  rw [hc k (by omega)]
  simp [List.getD, hk]

set_option maxHeartbeats 1000000 in
theorem sok (w : World) (v : Value) (xs : List Int) (hv : IntsC w v xs) :
    Calls Try.prog 23 #[v] w fun e w' => e = .returned (.bool (pmB xs)) ∧ ∃ n, w' = w.drewN n := by
  have hml := hv.1.1
  by_cases hbig : 32 < xs.length
  · have V := Lib.hid (pmB_false (xs := xs) (fun h => by have := h.1; omega))
    obtain ⟨a, cap, rfl, _⟩ := hv.part
    have g1 : decide ((32 : Int) < (xs.length : Int)) = true := decide_eq_true (by omega)
    have g1' : decide (32 < xs.length) = true := decide_eq_true (by omega)
    clear hv hbig
    go_enter Try.func23, Try.ntmps23
    go_wp2
    go_ret
    exact ⟨by rw [V.out]; rfl, 0, rfl⟩
  obtain ⟨m, hm⟩ : ∃ m, xs.length = m := ⟨_, rfl⟩
  have m32 : m ≤ 32 := by omega
  have g1 : decide ((32 : Int) < (m : Int)) = false := decide_eq_false (by omega)
  have g1' : decide (32 < m) = false := decide_eq_false (by omega)
  obtain ⟨a, cap, rfl, hk, hc⟩ : ∃ a cap, v = .slice a m cap ∧ m ≤ cap ∧ ∀ j, j < m → ∃ g off, a = some ⟨g, off, none⟩ ∧ w.cell? ⟨g, off + j, none⟩ = some (.int .i64 (xs.getD j 0)) ∧ IntsAt w (.slice (some ⟨g, off, none⟩) j cap) (xs.take j) := by
    obtain ⟨⟨_, ⟨rfl, a, cap, rfl⟩ | ⟨g, off, cap, rfl, hc⟩⟩, hk⟩ := hv
    · rw [← hm]; exact ⟨a, cap, rfl, Nat.zero_le _, fun j hj => by simp at hj⟩
    · rw [hm]; exact ⟨_, cap, rfl, by rw [← hm]; exact hk, fun j hj => ⟨g, off, rfl, hc j (by omega), prefix_at hc (by omega) hml⟩⟩
  have HC := Lib.hid hc
  have YES : Hid ((∀ k, k < m → okPm xs k) → pmB xs = true) := fun h => pmB_true ⟨by omega, fun i hi => h i (by omega)⟩
  have NO : Hid (∀ k, k < m → ¬ okPm xs k → pmB xs = false) := fun k hk hn => pmB_false fun h => hn (h.2 k (by omega))
  have HM := Lib.hid hm
  clear hc hv hm hbig hml
  go_enter Try.func23, Try.ntmps23
  go_wp2
  go_loopw [3] (fun i wr => ∃ j : Nat, j ≤ m ∧ i = .int .i64 j ∧ Hid (∀ k, k < j → okPm xs k) ∧ ∃ d, wr = w.drewN d) (fun i _ => m - (intOf i).toNat)
  case atStart => exact ⟨0, by omega, rfl, fun k hk => by omega, 0, rfl⟩
  case round =>
    obtain ⟨j, hj, rfl, hO, d, rfl⟩ := hrel
    by_cases c : j < m
    · have k1 : decide (j < m) = true := by simpa using c
      obtain ⟨g, off, rfl, cj, hp⟩ := HC.out j c
      have NJ := Lib.hid (NO.out j c)
      have e0 : okPm xs j ↔ (0 ≤ xs.getD j 0 ∧ xs.getD j 0 ≤ (m : Int) - 1) ∧ xs.getD j 0 ∉ xs.take j := by unfold okPm; rw [HM.out, and_assoc]
      have E0 := Lib.hid e0
      obtain ⟨x, hx⟩ : ∃ x, xs.getD j 0 = x := ⟨_, rfl⟩
      rw [hx] at cj E0
      have j0 : (0 : Int) ≤ (j : Int) := by omega
      have j1 : (j : Int) < (m : Int) := by omega
      have jc : (j : Int) ≤ (cap : Int) := by omega
      have jc' : j ≤ cap := by omega
      have w3 := IntWalk.i64_in ((j : Int) + 1) (by omega)
      have w4 := IntWalk.i64_in ((m : Int) - 1) (by omega)
      clear hx e0
      by_cases hin : 0 ≤ x ∧ x ≤ (m : Int) - 1
      · have hI := Lib.hid (fun W : World => in_yes' x 0 ((m : Int) - 1) W hin.1 hin.2)
        have HH := Lib.hid (fun W (h : IntsAt W (.slice (some ⟨g, off, none⟩) j cap) (xs.take j)) => (shas W _ (xs.take j) x h).mono fun e w' ⟨h1, h2⟩ => And.intro h1 h2.symm)
        have HP := Lib.hid (fun k => (hp.drewN d).drewN k)
        have HP2 := Lib.hid (fun k => hp.drewN k)
        obtain ⟨b, hb⟩ : ∃ b, decide (x ∈ xs.take j) = b := ⟨_, rfl⟩
        simp only [hb] at HH
        cases b with
        | true =>
          have V := Lib.hid (NJ.out (fun h => (E0.out.1 h).2 (of_decide_eq_true hb)))
          clear hp hb hin
          go_wp2
          go_quiet (first
            | (go_at_call 31; first | exact Calls.quiet_of_same (hI.out _) | exact quiet_same2 (hI.out _))
            | (go_at_call 32; first | exact Calls.quiet_of_same (HH.out _ (HP.out _)) | exact quiet_same2 (HH.out _ (HP2.out _))))
          go_wp2
          go_ret
          exact ⟨by rw [V.out]; rfl, _, by first | exact World.drewN_drewN .. | rfl⟩
        | false =>
          have V := Lib.hid (E0.out.2 ⟨hin, of_decide_eq_false hb⟩)
          have O2 : Hid (∀ k, k < j + 1 → okPm xs k) := fun k hk => by
            by_cases e : k = j
            · rw [e]; exact V.out
            · exact hO.out k (by omega)
          clear hp hb hin
          go_wp2
          go_quiet (first
            | (go_at_call 31; first | exact Calls.quiet_of_same (hI.out _) | exact quiet_same2 (hI.out _))
            | (go_at_call 32; first | exact Calls.quiet_of_same (HH.out _ (HP.out _)) | exact quiet_same2 (HH.out _ (HP2.out _))))
          go_wp2
          go_roundw
          case rel => exact ⟨j + 1, by omega, by go_num, O2, _, rfl⟩
          case measure => simp [intOf]; omega
      · have hI := Lib.hid (fun W : World => in_no' x 0 ((m : Int) - 1) W (by omega))
        have V := Lib.hid (NJ.out (fun h => hin (E0.out.1 h).1))
        clear hp hin
        go_wp2
        go_quiet ((go_at_call 31; first | exact Calls.quiet_of_same (hI.out _) | exact quiet_same2 (hI.out _)))
        go_wp2
        go_ret
        exact ⟨by rw [V.out]; rfl, _, by first | exact World.drewN_drewN .. | rfl⟩
    · have k1 : decide (j < m) = false := by simpa using c
      obtain rfl : j = m := by omega
      have V := Lib.hid (YES.out hO.out)
      go_wp2
      go_ret
      exact ⟨by rw [V.out]; rfl, _, by first | exact World.drewN_drewN .. | rfl⟩

/-- The identity. -/
def oneL (n : Nat) : List Int := (List.range n).map fun i : Nat => (i : Int)
theorem oneL_length (n : Nat) : (oneL n).length = n := by simp [oneL]
theorem oneL_succ (n : Nat) : oneL (n + 1) = oneL n ++ [(n : Int)] := by simp [oneL, List.range_succ]
theorem oneL_getD (n i : Nat) (h : i < n) : (oneL n).getD i 0 = i := by simp [oneL, List.getD, h]
/-- First p, then q. -/
def tms (ps qs : List Int) : List Int := ps.map fun x => qs.getD x.toNat 0
theorem tms_length (ps qs : List Int) : (tms ps qs).length = ps.length := by simp [tms]
theorem tms_take {ps qs : List Int} {j : Nat} (h : j < ps.length) : tms (ps.take (j + 1)) qs = tms (ps.take j) qs ++ [qs.getD (ps.getD j 0).toNat 0] := by
  unfold tms; rw [takeI_getD h]; simp
theorem part2 {w : World} {v : Value} {xs : List Int} (hv : IntsAt w v xs) : ∃ a cap, v = .slice a xs.length cap ∧ ∀ j, j < xs.length → ∃ g off, a = some ⟨g, off, none⟩ ∧ g < w.heap.size ∧ w.cell? ⟨g, off + j, none⟩ = some (.int .i64 (xs.getD j 0)) := by
  obtain ⟨_, ⟨rfl, a, cap, rfl⟩ | ⟨g, off, cap, rfl, hc⟩⟩ := hv
  · exact ⟨a, cap, rfl, fun j hj => by simp at hj⟩
  · exact ⟨_, cap, rfl, fun j hj => ⟨g, off, rfl, World.block_lt_of_cell? w _ (hc j hj), hc j hj⟩⟩
/-- The inverse, as it is written. -/
def bk (ps : List Int) : Nat → List Int
  | 0 => List.replicate ps.length 0
  | j + 1 => (bk ps j).set (ps.getD j 0).toNat j
theorem bk_length (ps : List Int) : ∀ j, (bk ps j).length = ps.length
  | 0 => by simp [bk]
  | j + 1 => by rw [bk, List.length_set, bk_length ps j]
def bck (ps : List Int) : List Int := bk ps ps.length
theorem bck_length (ps : List Int) : (bck ps).length = ps.length := bk_length _ _
end Go.Proofs.Ytodlcjdbpibacaa
