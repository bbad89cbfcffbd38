/- Permutations: the program's IdentityPermutation and InvertPermutation. -/
import Derived.Test.YtcgmencdadinbaaIv
import Derived.Test.YtcgmencdadinbaaIa
namespace Go.Proofs.Ytcgmencdadinbaa
open Go.RowKit
set_option linter.unusedVariables false

set_option maxHeartbeats 1000000 in
theorem iIdentityPermutation (n : Int) (hn : I64 n) (W : World) :
    Calls Try.prog 22 #[.int .i64 n] W fun e w' => ∃ r, e = .returned (.tuple #[r, .int .i64 (IdentityPermutation_1 n)]) ∧ Ints w' W.heap.size r (IdentityPermutation_0 n) ∧ Below W.heap.size W w' := by
  by_cases h : 0 ≤ n ∧ n ≤ 32
  · have V := Lib.hid (Identity_in h)
    obtain ⟨m, rfl⟩ : ∃ m : Nat, n = m := ⟨n.toNat, by omega⟩
    rw [Int.toNat_natCast] at V
    have g1 : decide ((m : Int) < 0) = false := decide_eq_false (by omega)
    have g2 : decide ((32 : Int) < (m : Int)) = false := decide_eq_false (by omega)
    have g2' : decide (32 < m) = false := decide_eq_false (by omega)
    have hm : m ≤ 32 := by omega
    have hmk := fun W : World => run_make_row' (P := Try.prog) 22 2 (.int .i64 0) 8 Try.underlying22 Try.infoInt rfl .i64 .i64 m (by omega) (by omega) W
    have EN : Hid ((List.range m).map (fun i : Nat => if i < m then (i : Int) else 0) = oneL m) := list_of_fn (oneL_length m) (fun i hi => by rw [oneL_getD m i hi, if_pos hi])
    have IA : Hid (∀ W : World, Ia (W.alloc (.cells (madeCells #[.int .i64 0] m) 2)) 2 W.heap.size m (fun i => if i < 0 then (i : Int) else 0)) := fun W => (made_ia W _ m).congr (fun i hi => by rw [if_neg (by omega)])
    clear h hn
    go_enter Try.func22, Try.ntmps22
    go_wp2
    have RO := Lib.hid (IA.out W)
    have BO : Hid (Below W.heap.size W (W.alloc (.cells (madeCells #[.int .i64 0] m) 2))) := (Below.refl _ _).alloc (Nat.le_refl _) _
    obtain ⟨wo, hwo⟩ : ∃ wo, W.alloc (.cells (madeCells #[.int .i64 0] m) 2) = wo := ⟨_, rfl⟩
    rw [hwo] at RO BO ⊢
    obtain ⟨B, hB⟩ : ∃ B, W.heap.size = B := ⟨_, rfl⟩
    rw [hB] at RO BO ⊢
    have HE := Lib.hid hB
    clear hwo hB hmk IA
    go_loopw [15] (fun i wr => ∃ (j : Nat), j ≤ m ∧ i = .int .i64 j ∧ Hid (Ia wr 2 B m (fun i => if i < j then (i : Int) else 0)) ∧ Hid (Below B W wr)) (fun i _ => m - (intOf i).toNat)
    case atStart => exact ⟨0, by omega, rfl, RO, BO⟩
    case round =>
      obtain ⟨j, hj, rfl, hI, hBl⟩ := hrel
      by_cases c : j < m
      · have k1 : decide (j < m) = true := by simpa using c
        have k1' : decide ((j : Int) < (m : Int)) = true := decide_eq_true (by omega)
        have cj := hI.out.cell j c
        have hf := hI.out.frozen j
        have j0 : (0 : Int) ≤ (j : Int) := by omega
        have j1 : (j : Int) < (m : Int) := by omega
        have w3 := IntWalk.i64_in ((j : Int) + 1) (by omega)
        have S1 : Hid (Ia (wr.setCell ⟨B, j, none⟩ (.int .i64 j)) 2 B m (fun i => if i < j + 1 then (i : Int) else 0)) := (hI.out.set j j).congr (fun i hi => by
          unfold updI
          by_cases e : i = j
          · rw [if_pos e, if_pos (by omega), e]
          · rw [if_neg e]
            show (if i < j then (i : Int) else 0) = _
            by_cases e2 : i < j
            · rw [if_pos e2, if_pos (by omega)]
            · rw [if_neg e2, if_neg (by omega)])
        have S2 : Hid (Below B W (wr.setCell ⟨B, j, none⟩ (.int .i64 j))) := hBl.out.setCell (Nat.le_refl _) _
        go_wp2
        go_roundw
        case rel => exact ⟨j + 1, by omega, by go_num, S1, S2⟩
        case measure => simp [intOf]; omega
      · have k1 : decide (j < m) = false := by simpa using c
        have k1' : decide ((j : Int) < (m : Int)) = false := decide_eq_false (by omega)
        obtain rfl : j = m := by omega
        have R := Lib.hid (hI.out.ints (B := B) (Nat.le_refl _) (by unfold maxLen; omega))
        rw [EN.out] at R
        go_wp2
        go_ret2
        exact ⟨_, by rw [V.out.2]; rfl, by rw [V.out.1, HE.out]; exact R.out, by rw [HE.out]; exact hBl.out⟩
  · have V := Lib.hid (Identity_out h)
    by_cases c : n < 0
    · have g1 : decide (n < 0) = true := by simpa using c
      clear h c
      go_enter Try.func22, Try.ntmps22
      go_wp2
      go_ret2
      exact ⟨_, by rw [V.out.2]; rfl, by rw [V.out.1]; exact nilI _ _, Below.refl _ _⟩
    · have g1 : decide (n < 0) = false := by simpa using c
      have g2 : decide (32 < n) = true := decide_eq_true (by omega)
      clear h c
      go_enter Try.func22, Try.ntmps22
      go_wp2
      go_ret2
      exact ⟨_, by rw [V.out.2]; rfl, by rw [V.out.1]; exact nilI _ _, Below.refl _ _⟩

set_option maxHeartbeats 1000000 in
theorem iInvertPermutation (ps : List Int) (hx : SmallL ps) (W : World) (u : Value) (hu : IntsC W u ps) :
    Calls Try.prog 28 #[u] W fun e w' => ∃ r, e = .returned (.tuple #[r, .int .i64 (InvertPermutation_1 ps)]) ∧ Ints w' W.heap.size r (InvertPermutation_0 ps) ∧ Below W.heap.size W w' := by
  have HX := Lib.hid (iok W u ps hu)
  cases hp : pmB ps with
  | false =>
    have V := Lib.hid (Invert_bad hp)
    rw [hp] at HX
    clear hp hu
    go_enter Try.func28, Try.ntmps28
    go_wp2_with fail
    refine HX.out.mono ?_
    rintro e w1 ⟨rfl, b1⟩
    have B1 := Lib.hid b1
    clear b1
    go_wp2
    go_ret2
    exact ⟨_, by rw [V.out.2]; rfl, by rw [V.out.1]; exact nilI _ _, B1.out⟩
  | true =>
    have V := Lib.hid (Invert_ok hp)
    rw [hp] at HX
    have hl := (of_pmB hp).1
    have hpp : ∀ i, i < ps.length → 0 ≤ ps.getD i 0 ∧ ps.getD i 0 < ps.length := fun i hi => by have := (of_pmB hp).2 i hi; unfold okPm at this; omega
    clear hp
    obtain ⟨a, cap, rfl, hc⟩ := part2 hu.1
    have BS : Hid (∀ j, bk ps (j + 1) = (bk ps j).set (ps.getD j 0).toNat j) := fun j => rfl
    have BL : Hid (∀ j, (bk ps j).length = ps.length) := bk_length ps
    have BE : Hid (bck ps = bk ps ps.length) := rfl
    have HC := Lib.hid hc
    have HP := Lib.hid hpp
    have hrow0 : Hid (∀ W : World, Ints (W.alloc (.cells (madeCells #[.int .i64 0] ps.length) 2)) W.heap.size (.slice (some ⟨W.heap.size, 0, none⟩) ps.length ps.length) (bk ps 0)) := fun W => by
      have := World.ownsRow_lit (base := W.heap.size) (e := 2) (size := 1) W (madeCells #[.int .i64 0] ps.length) ps.length (Nat.le_refl _) (by unfold maxLen; omega) (by simp [size_madeCells])
      rw [toList_madeCells_one] at this
      unfold Ints
      rw [bk_length]
      simpa [bk] using this
    obtain ⟨m, hm⟩ : ∃ m, ps.length = m := ⟨_, rfl⟩
    rw [hm] at HC HP BL BE hrow0 hl HX ⊢
    have hmk := fun W : World => run_make_row' (P := Try.prog) 22 2 (.int .i64 0) 8 Try.underlying22 Try.infoInt rfl .i64 .i64 m (by omega) (by omega) W
    clear hc hu hpp hm
    go_enter Try.func28, Try.ntmps28
    go_wp2_with fail
    refine HX.out.mono ?_
    rintro e w1 ⟨rfl, b1⟩
    have B1 := Lib.hid b1
    have s1 := b1.size
    have HC1 : Hid (∀ j, j < m → ∃ g off, a = some ⟨g, off, none⟩ ∧ g < w1.heap.size ∧ w1.cell? ⟨g, off + j, none⟩ = some (.int .i64 (ps.getD j 0))) := fun j hj => by
      obtain ⟨g, off, e, hg, hcj⟩ := HC.out j hj
      exact ⟨g, off, e, by omega, by rw [b1.cell (p := ⟨g, off + j, none⟩) hg, hcj]⟩
    clear b1 HC
    go_wp2
    have RO := Lib.hid (hrow0.out w1)
    have BO : Hid (Below w1.heap.size w1 (w1.alloc (.cells (madeCells #[.int .i64 0] m) 2))) := (Below.refl _ _).alloc (Nat.le_refl _) _
    obtain ⟨wo, hwo⟩ : ∃ wo, w1.alloc (.cells (madeCells #[.int .i64 0] m) 2) = wo := ⟨_, rfl⟩
    rw [hwo] at RO BO ⊢
    obtain ⟨B, hB⟩ : ∃ B, w1.heap.size = B := ⟨_, rfl⟩
    rw [hB] at RO BO HC1 s1 ⊢
    clear hwo hB hmk hrow0
    go_loopw [15] (fun i wr => ∃ (j : Nat), j ≤ m ∧ i = .int .i64 j ∧ Hid (Ints wr B (.slice (some ⟨B, 0, none⟩) m m) (bk ps j)) ∧ Hid (Below B w1 wr)) (fun i _ => m - (intOf i).toNat)
    case atStart => exact ⟨0, by omega, rfl, RO, BO⟩
    case round =>
      obtain ⟨j, hj, rfl, hI, hBl⟩ := hrel
      by_cases c : j < m
      · have k1 : decide (j < m) = true := by simpa using c
        obtain ⟨g, off, rfl, hg, cj⟩ := HC1.out j c
        obtain ⟨p0, p1⟩ := HP.out j c
        have BJ := Lib.hid (BS.out j)
        obtain ⟨x, hx⟩ : ∃ x, ps.getD j 0 = x := ⟨_, rfl⟩
        rw [hx] at cj p0 p1 BJ
        obtain ⟨t, rfl⟩ : ∃ t : Nat, x = t := ⟨x.toNat, by omega⟩
        rw [Int.toNat_natCast] at BJ
        have cx : wr.cell? ⟨g, off + j, none⟩ = some (.int .i64 t) := by rw [hBl.out.cell (p := ⟨g, off + j, none⟩) hg, cj]
        have lj := BL.out j
        have hO : wr.ownsRow B 2 1 (.slice (some ⟨B, 0, none⟩) m m) m ((bk ps j).map (Value.int .i64)) := by have := hI.out; unfold Ints at this; rw [lj] at this; exact this
        have tm : t < m := by omega
        obtain ⟨old, hold⟩ : ∃ old, wr.cell? ⟨B, t, none⟩ = some old := by
          rw [hO.cellAt t (by omega), List.getElem?_eq_getElem (by rw [List.length_map]; omega)]; exact ⟨_, rfl⟩
        have hf : wr.frozen? ⟨B, t, none⟩ = false := hO.frozenAt t
        have S1 : Hid (Ints (wr.setCell ⟨B, t, none⟩ (.int .i64 j)) B (.slice (some ⟨B, 0, none⟩) m m) (bk ps (j + 1))) := by
          have := (hO.stored t (.int .i64 j)).1
          rw [← List.map_set, ← BJ.out] at this
          unfold Hid Ints
          rw [BL.out]
          exact this
        have S2 : Hid (Below B w1 (wr.setCell ⟨B, t, none⟩ (.int .i64 j))) := hBl.out.setCell (Nat.le_refl _) _
        have j0 : (0 : Int) ≤ (j : Int) := by omega
        have j1 : (j : Int) < (m : Int) := by omega
        have t1 : (t : Int) < (m : Int) := by omega
        have t0 : (0 : Int) ≤ (t : Int) := by omega
        have w3 := IntWalk.i64_in ((j : Int) + 1) (by omega)
        have w4 := IntWalk.i64_in (j : Int) (by omega)
        clear hx cj hg hO lj
        go_wp2
        go_roundw
        case rel => exact ⟨j + 1, by omega, by go_num, S1, S2⟩
        case measure => simp [intOf]; omega
      · have k1 : decide (j < m) = false := by simpa using c
        obtain rfl : j = m := by omega
        go_wp2
        go_ret2
        refine ⟨_, by rw [V.out.2]; rfl, ?_, B1.out.trans (hBl.out.mono s1)⟩
        rw [V.out.1, BE.out]
        exact hI.out.mono s1
end Go.Proofs.Ytcgmencdadinbaa
