/- Permutations: the model's tests and products. -/
import Derived.Test.YtigcgpgkpkoodabLim
import Derived.Test.YtigcgpgkpkoodabHas
namespace Go.Proofs.Ytigcgpgkpkoodab
open Go.RowKit
set_option linter.unusedVariables false

/-- A permutation, as the model tests it. -/
def okPm (xs : List Int) (i : Nat) : Prop := 0 ≤ xs.getD i 0 ∧ xs.getD i 0 ≤ (xs.length : Int) - 1 ∧ xs.getD i 0 ∉ xs.take i
def IsPm (xs : List Int) : Prop := xs.length ≤ 32 ∧ ∀ i, i < xs.length → okPm xs i
noncomputable def pmB (xs : List Int) : Bool := @decide (IsPm xs) (Classical.propDecidable _)
theorem pmB_true {xs : List Int} (h : IsPm xs) : pmB xs = true := @decide_eq_true _ (Classical.propDecidable _) h
theorem pmB_false {xs : List Int} (h : ¬ IsPm xs) : pmB xs = false := @decide_eq_false _ (Classical.propDecidable _) h
theorem of_pmB {xs : List Int} (h : pmB xs = true) : IsPm xs := @of_decide_eq_true _ (Classical.propDecidable _) h
theorem not_pmB {xs : List Int} (h : pmB xs = false) : ¬ IsPm xs := fun k => by rw [pmB_true k] at h; cases h
theorem prefix_at {w : World} {g off cap j : Nat} {xs : List Int} (hc : ∀ j, j < xs.length → w.cell? ⟨g, off + j, none⟩ = some (.int .i64 (xs.getD j 0))) (hj : j ≤ xs.length) (hl : xs.length ≤ 9223372036854775807) :
    IntsAt w (.slice (some ⟨g, off, none⟩) j cap) (xs.take j) := by
  have e : (xs.take j).length = j := by rw [List.length_take]; omega
  refine ⟨by omega, .inr ⟨g, off, cap, by rw [e], fun k hk => ?_⟩⟩
  rw [e] at hk
  rw [hc k (by omega)]
  simp [List.getD, hk]

set_option maxHeartbeats 1000000 in
theorem sok (w : World) (v : Value) (xs : List Int) (hv : IntsC w v xs) :
    Calls Try.prog 43 #[v] w fun e w' => e = .returned (.bool (pmB xs)) ∧ ∃ n, w' = w.drewN n := by
  have hml := hv.1.1
  by_cases hbig : 32 < xs.length
  · have V := Lib.hid (pmB_false (xs := xs) (fun h => by have := h.1; omega))
    obtain ⟨a, cap, rfl, _⟩ := hv.part
    have g1 : decide ((32 : Int) < (xs.length : Int)) = true := decide_eq_true (by omega)
    have g1' : decide (32 < xs.length) = true := decide_eq_true (by omega)
    clear hv hbig
    go_enter Try.func43, Try.ntmps43
    go_wp2
    go_ret
    exact ⟨by rw [V.out]; rfl, 0, rfl⟩
  obtain ⟨m, hm⟩ : ∃ m, xs.length = m := ⟨_, rfl⟩
  have m32 : m ≤ 32 := by omega
  have g1 : decide ((32 : Int) < (m : Int)) = false := decide_eq_false (by omega)
  have g1' : decide (32 < m) = false := decide_eq_false (by omega)
  obtain ⟨a, cap, rfl, hk, hc⟩ : ∃ a cap, v = .slice a m cap ∧ m ≤ cap ∧ ∀ j, j < m → ∃ g off, a = some ⟨g, off, none⟩ ∧ w.cell? ⟨g, off + j, none⟩ = some (.int .i64 (xs.getD j 0)) ∧ IntsAt w (.slice (some ⟨g, off, none⟩) j cap) (xs.take j) := by
    obtain ⟨⟨_, ⟨rfl, a, cap, rfl⟩ | ⟨g, off, cap, rfl, hc⟩⟩, hk⟩ := hv
    · rw [← hm]; exact ⟨a, cap, rfl, Nat.zero_le _, fun j hj => by simp at hj⟩
    · rw [hm]; exact ⟨_, cap, rfl, by rw [← hm]; exact hk, fun j hj => ⟨g, off, rfl, hc j (by omega), prefix_at hc (by omega) hml⟩⟩
  have HC := Lib.hid hc
  have YES : Hid ((∀ k, k < m → okPm xs k) → pmB xs = true) := fun h => pmB_true ⟨by omega, fun i hi => h i (by omega)⟩
  have NO : Hid (∀ k, k < m → ¬ okPm xs k → pmB xs = false) := fun k hk hn => pmB_false fun h => hn (h.2 k (by omega))
  have HM := Lib.hid hm
  clear hc hv hm hbig hml
  go_enter Try.func43, Try.ntmps43
  go_wp2
  go_loopw [3] (fun i wr => ∃ j : Nat, j ≤ m ∧ i = .int .i64 j ∧ Hid (∀ k, k < j → okPm xs k) ∧ ∃ d, wr = w.drewN d) (fun i _ => m - (intOf i).toNat)
  case atStart => exact ⟨0, by omega, rfl, fun k hk => by omega, 0, rfl⟩
  case round =>
    obtain ⟨j, hj, rfl, hO, d, rfl⟩ := hrel
    by_cases c : j < m
    · have k1 : decide (j < m) = true := by simpa using c
      obtain ⟨g, off, rfl, cj, hp⟩ := HC.out j c
      have NJ := Lib.hid (NO.out j c)
      have e0 : okPm xs j ↔ (0 ≤ xs.getD j 0 ∧ xs.getD j 0 ≤ (m : Int) - 1) ∧ xs.getD j 0 ∉ xs.take j := by unfold okPm; rw [HM.out, and_assoc]
      have E0 := Lib.hid e0
      obtain ⟨x, hx⟩ : ∃ x, xs.getD j 0 = x := ⟨_, rfl⟩
      rw [hx] at cj E0
      have j0 : (0 : Int) ≤ (j : Int) := by omega
      have j1 : (j : Int) < (m : Int) := by omega
      have jc : (j : Int) ≤ (cap : Int) := by omega
      have jc' : j ≤ cap := by omega
      have w3 := IntWalk.i64_in ((j : Int) + 1) (by omega)
      have w4 := IntWalk.i64_in ((m : Int) - 1) (by omega)
      clear hx e0
      by_cases hin : 0 ≤ x ∧ x ≤ (m : Int) - 1
      · have hI := Lib.hid (fun W : World => in_yes' x 0 ((m : Int) - 1) W hin.1 hin.2)
        have HH := Lib.hid (fun W (h : IntsAt W (.slice (some ⟨g, off, none⟩) j cap) (xs.take j)) => (shas W _ (xs.take j) x h).mono fun e w' ⟨h1, h2⟩ => And.intro h1 h2.symm)
        have HP := Lib.hid (fun k => (hp.drewN d).drewN k)
        have HP2 := Lib.hid (fun k => hp.drewN k)
        obtain ⟨b, hb⟩ : ∃ b, decide (x ∈ xs.take j) = b := ⟨_, rfl⟩
        simp only [hb] at HH
        cases b with
        | true =>
          have V := Lib.hid (NJ.out (fun h => (E0.out.1 h).2 (of_decide_eq_true hb)))
          clear hp hb hin
          go_wp2
          go_quiet (first
            | (go_at_call 65; first | exact Calls.quiet_of_same (hI.out _) | exact quiet_same2 (hI.out _))
            | (go_at_call 71; first | exact Calls.quiet_of_same (HH.out _ (HP.out _)) | exact quiet_same2 (HH.out _ (HP2.out _))))
          go_wp2
          go_ret
          exact ⟨by rw [V.out]; rfl, _, by first | exact World.drewN_drewN .. | rfl⟩
        | false =>
          have V := Lib.hid (E0.out.2 ⟨hin, of_decide_eq_false hb⟩)
          have O2 : Hid (∀ k, k < j + 1 → okPm xs k) := fun k hk => by
            by_cases e : k = j
            · rw [e]; exact V.out
            · exact hO.out k (by omega)
          clear hp hb hin
          go_wp2
          go_quiet (first
            | (go_at_call 65; first | exact Calls.quiet_of_same (hI.out _) | exact quiet_same2 (hI.out _))
            | (go_at_call 71; first | exact Calls.quiet_of_same (HH.out _ (HP.out _)) | exact quiet_same2 (HH.out _ (HP2.out _))))
          go_wp2
          go_roundw
          case rel => exact ⟨j + 1, by omega, by go_num, O2, _, rfl⟩
          case measure => simp [intOf]; omega
      · have hI := Lib.hid (fun W : World => in_no' x 0 ((m : Int) - 1) W (by omega))
        have V := Lib.hid (NJ.out (fun h => hin (E0.out.1 h).1))
        clear hp hin
        go_wp2
        go_quiet ((go_at_call 65; first | exact Calls.quiet_of_same (hI.out _) | exact quiet_same2 (hI.out _)))
        go_wp2
        go_ret
        exact ⟨by rw [V.out]; rfl, _, by first | exact World.drewN_drewN .. | rfl⟩
    · have k1 : decide (j < m) = false := by simpa using c
      obtain rfl : j = m := by omega
      have V := Lib.hid (YES.out hO.out)
      go_wp2
      go_ret
      exact ⟨by rw [V.out]; rfl, _, by first | exact World.drewN_drewN .. | rfl⟩

/-- The identity. -/
def oneL (n : Nat) : List Int := (List.range n).map fun i : Nat => (i : Int)
theorem oneL_length (n : Nat) : (oneL n).length = n := by simp [oneL]
theorem oneL_succ (n : Nat) : oneL (n + 1) = oneL n ++ [(n : Int)] := by simp [oneL, List.range_succ]
theorem oneL_getD (n i : Nat) (h : i < n) : (oneL n).getD i 0 = i := by simp [oneL, List.getD, h]
/-- First p, then q. -/
def tms (ps qs : List Int) : List Int := ps.map fun x => qs.getD x.toNat 0
theorem tms_length (ps qs : List Int) : (tms ps qs).length = ps.length := by simp [tms]
theorem tms_take {ps qs : List Int} {j : Nat} (h : j < ps.length) : tms (ps.take (j + 1)) qs = tms (ps.take j) qs ++ [qs.getD (ps.getD j 0).toNat 0] := by
  unfold tms; rw [takeI_getD h]; simp
theorem part2 {w : World} {v : Value} {xs : List Int} (hv : IntsAt w v xs) : ∃ a cap, v = .slice a xs.length cap ∧ ∀ j, j < xs.length → ∃ g off, a = some ⟨g, off, none⟩ ∧ g < w.heap.size ∧ w.cell? ⟨g, off + j, none⟩ = some (.int .i64 (xs.getD j 0)) := by
  obtain ⟨_, ⟨rfl, a, cap, rfl⟩ | ⟨g, off, cap, rfl, hc⟩⟩ := hv
  · exact ⟨a, cap, rfl, fun j hj => by simp at hj⟩
  · exact ⟨_, cap, rfl, fun j hj => ⟨g, off, rfl, World.block_lt_of_cell? w _ (hc j hj), hc j hj⟩⟩
/-- The inverse, as it is written. -/
def bk (ps : List Int) : Nat → List Int
  | 0 => List.replicate ps.length 0
  | j + 1 => (bk ps j).set (ps.getD j 0).toNat j
theorem bk_length (ps : List Int) : ∀ j, (bk ps j).length = ps.length
  | 0 => by simp [bk]
  | j + 1 => by rw [bk, List.length_set, bk_length ps j]
def bck (ps : List Int) : List Int := bk ps ps.length
theorem bck_length (ps : List Int) : (bck ps).length = ps.length := bk_length _ _
set_option maxHeartbeats 1000000 in
theorem sBack (w : World) (u : Value) (ps : List Int) (hu : IntsAt w u ps) (hp : ∀ i, i < ps.length → 0 ≤ ps.getD i 0 ∧ ps.getD i 0 < ps.length) (hl : ps.length ≤ 100000) :
    Calls Try.prog 34 #[u] w fun e w' => ∃ r, e = .returned r ∧ Ints w' w.heap.size r (bck ps) ∧ Below w.heap.size w w' := by
  obtain ⟨a, cap, rfl, hc⟩ := part2 hu
  have BS : Hid (∀ j, bk ps (j + 1) = (bk ps j).set (ps.getD j 0).toNat j) := fun j => rfl
  have BL : Hid (∀ j, (bk ps j).length = ps.length) := bk_length ps
  have BE : Hid (bck ps = bk ps ps.length) := rfl
  have HC := Lib.hid hc
  have HP := Lib.hid hp
  have hrow0 : Hid (∀ W : World, Ints (W.alloc (.cells (madeCells #[.int .i64 0] ps.length) 2)) W.heap.size (.slice (some ⟨W.heap.size, 0, none⟩) ps.length ps.length) (bk ps 0)) := fun W => by
    have := World.ownsRow_lit (base := W.heap.size) (e := 2) (size := 1) W (madeCells #[.int .i64 0] ps.length) ps.length (Nat.le_refl _) (by unfold maxLen; omega) (by simp [size_madeCells])
    rw [toList_madeCells_one] at this
    unfold Ints
    rw [bk_length]
    simpa [bk] using this
  obtain ⟨m, hm⟩ : ∃ m, ps.length = m := ⟨_, rfl⟩
  rw [hm] at HC HP BL BE hrow0 hl ⊢
  have hmk := fun W : World => run_make_row' (P := Try.prog) 24 2 (.int .i64 0) 8 Try.underlying24 Try.infoInt rfl .i64 .i64 m (by omega) (by omega) W
  clear hc hu hp hm
  go_enter Try.func34, Try.ntmps34
  go_wp2
  have RO := Lib.hid (hrow0.out w)
  have BO : Hid (Below w.heap.size w (w.alloc (.cells (madeCells #[.int .i64 0] m) 2))) := (Below.refl _ _).alloc (Nat.le_refl _) _
  obtain ⟨wo, hwo⟩ : ∃ wo, w.alloc (.cells (madeCells #[.int .i64 0] m) 2) = wo := ⟨_, rfl⟩
  rw [hwo] at RO BO ⊢
  obtain ⟨B, hB⟩ : ∃ B, w.heap.size = B := ⟨_, rfl⟩
  rw [hB] at RO BO HC ⊢
  have HE := Lib.hid hB
  clear hwo hB hmk hrow0
  go_loopw [4] (fun i wr => ∃ (j : Nat), j ≤ m ∧ i = .int .i64 j ∧ Hid (Ints wr B (.slice (some ⟨B, 0, none⟩) m m) (bk ps j)) ∧ Hid (Below B w wr)) (fun i _ => m - (intOf i).toNat)
  case atStart => exact ⟨0, by omega, rfl, RO, BO⟩
  case round =>
    obtain ⟨j, hj, rfl, hI, hBl⟩ := hrel
    by_cases c : j < m
    · have k1 : decide (j < m) = true := by simpa using c
      obtain ⟨g, off, rfl, hg, cj⟩ := HC.out j c
      obtain ⟨p0, p1⟩ := HP.out j c
      have BJ := Lib.hid (BS.out j)
      obtain ⟨x, hx⟩ : ∃ x, ps.getD j 0 = x := ⟨_, rfl⟩
      rw [hx] at cj p0 p1 BJ
      obtain ⟨t, rfl⟩ : ∃ t : Nat, x = t := ⟨x.toNat, by omega⟩
      rw [Int.toNat_natCast] at BJ
      have cx : wr.cell? ⟨g, off + j, none⟩ = some (.int .i64 t) := by rw [hBl.out.cell (p := ⟨g, off + j, none⟩) hg, cj]
      have lj := BL.out j
      have hO : wr.ownsRow B 2 1 (.slice (some ⟨B, 0, none⟩) m m) m ((bk ps j).map (Value.int .i64)) := by have := hI.out; unfold Ints at this; rw [lj] at this; exact this
      have tm : t < m := by omega
      obtain ⟨old, hold⟩ : ∃ old, wr.cell? ⟨B, t, none⟩ = some old := by
        rw [hO.cellAt t (by omega), List.getElem?_eq_getElem (by rw [List.length_map]; omega)]; exact ⟨_, rfl⟩
      have hf : wr.frozen? ⟨B, t, none⟩ = false := hO.frozenAt t
      have S1 : Hid (Ints (wr.setCell ⟨B, t, none⟩ (.int .i64 j)) B (.slice (some ⟨B, 0, none⟩) m m) (bk ps (j + 1))) := by
        have := (hO.stored t (.int .i64 j)).1
        rw [← List.map_set, ← BJ.out] at this
        unfold Hid Ints
        rw [BL.out]
        exact this
      have S2 : Hid (Below B w (wr.setCell ⟨B, t, none⟩ (.int .i64 j))) := hBl.out.setCell (Nat.le_refl _) _
      have j0 : (0 : Int) ≤ (j : Int) := by omega
      have j1 : (j : Int) < (m : Int) := by omega
      have t1 : (t : Int) < (m : Int) := by omega
      have t0 : (0 : Int) ≤ (t : Int) := by omega
      have w3 := IntWalk.i64_in ((j : Int) + 1) (by omega)
      clear hx cj hg hO lj
      go_wp2
      go_roundw
      case rel => exact ⟨j + 1, by omega, by go_num, S1, S2⟩
      case measure => simp [intOf]; omega
    · have k1 : decide (j < m) = false := by simpa using c
      obtain rfl : j = m := by omega
      go_wp2
      go_ret
      exact ⟨_, rfl, by rw [BE.out, HE.out]; exact hI.out, by rw [HE.out]; exact hBl.out⟩
end Go.Proofs.Ytigcgpgkpkoodab
