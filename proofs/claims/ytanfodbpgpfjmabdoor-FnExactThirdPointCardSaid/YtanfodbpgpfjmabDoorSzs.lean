/- Sizes of the blocks, by the program; whether all numbers of a list are one. -/
import Derived.Test.YtanfodbpgpfjmabDoorRpm
import Derived.Test.YtanfodbpgpfjmabDoorPcm
namespace Go.Proofs.YtanfodbpgpfjmabDoor
open Go.RowKit Go.Shelf
set_option linter.unusedVariables false
set_option linter.unusedSimpArgs false

def szS (m : Nat) (S : Nat → Nat) : List Int := stL m (fun i => cnt 32 (fun k => (S i).testBit k))
theorem stL_len (n : Nat) (f : Nat → Nat) : (stL n f).length = n := by simp [stL]

set_option maxRecDepth 100000 in
set_option maxHeartbeats 1000000 in
theorem iSizes (n m : Nat) (hm : m ≤ 128) (S : Nat → Nat) (g : Nat) (w : World) (hU : Ub w g m S) (hS : ∀ i, i < m → S i < 4294967296) :
    Calls Tryd.prog 55 #[.agg #[.int .i64 (n : Int), .slice (some ⟨g, 0, none⟩) m m]] w fun e w' => ∃ v, e = .returned v ∧ Ints w' w.heap.size v (szS m S) ∧ Below w.heap.size w w' := by
  obtain ⟨B, hB⟩ : ∃ B, w.heap.size = B := ⟨_, rfl⟩
  have lg : g < B := by rw [← hB]; exact hU.lt
  obtain ⟨w1, hw1⟩ : ∃ w1, w.alloc (.cells #[.int .i64 (n : Int), .slice (some ⟨g, 0, none⟩) m m] 44) = w1 := ⟨_, rfl⟩
  have z1 : w1.heap.size = B + 1 := by rw [← hw1, World.size_alloc, hB]
  have b1 : Below B w w1 := by rw [← hw1]; exact (Below.refl _ _).alloc (by omega) _
  have A1 : w1.heap[B]? = some (.cells #[.int .i64 (n : Int), .slice (some ⟨g, 0, none⟩) m m] 44 (0, 0)) := by rw [← hw1, ← hB]; exact heap_alloc_new _ _
  have hmk := run_make_row' (P := Tryd.prog) 55 2 (.int .i64 0) 8 Tryd.underlying55 Tryd.infoInt rfl .i64 .i64 m (by omega) (by omega) w1
  have O2 := World.ownsRow_lit (base := B + 1) (e := 2) (size := 1) w1 (madeCells #[.int .i64 0] m) m (by omega) (by unfold maxLen; omega) (by simp [size_madeCells])
  rw [toList_madeCells_one, z1] at O2
  have b12 : Below (B + 1) w1 (w1.alloc (.cells (madeCells #[.int .i64 0] m) 2)) := (Below.refl _ _).alloc (Nat.le_of_eq z1.symm) _
  obtain ⟨w2, hw2⟩ : ∃ w2, w1.alloc (.cells (madeCells #[.int .i64 0] m) 2) = w2 := ⟨_, rfl⟩
  rw [hw2, z1] at hmk
  rw [hw2] at O2 b12
  have c0 : w1.cell? ⟨B, 1, none⟩ = some (.slice (some ⟨g, 0, none⟩) m m) := by rw [cell_of_row w1 B 1 _ _ _ A1]; rfl
  have A2 := (b12.block B (Nat.lt_succ_self B)).trans A1
  have c2 : w2.cell? ⟨B, 1, none⟩ = some (.slice (some ⟨g, 0, none⟩) m m) := by rw [cell_of_row w2 B 1 _ _ _ A2]; rfl
  have U2 : Hid (Ub w2 g m S) := (hU.below b1 lg).below b12 (by omega)
  have B2 : Hid (Below B w w2) := b1.trans (b12.mono (by omega))
  obtain ⟨q, hq⟩ : ∃ q : Nat → Nat, q = fun i => cnt 32 (fun k => (S i).testBit k) := ⟨_, rfl⟩
  have QL : Hid (∀ i, q i ≤ 32) := fun i => by rw [hq]; exact cnt_le _ _
  have HZ : Hid (∀ i, i < m → ∀ W, Calls Tryd.prog 67 #[.int .u32 (S i : Nat)] W fun e w' => e = .returned (.int .i64 (q i : Nat)) ∧ w' = W.drew) := fun i hi W => by rw [hq]; exact isize (S i) W (hS i hi)
  have SE : Hid (szS m S = stL m q) := by unfold Hid szS; rw [hq]
  have R0 : Hid (w2.ownsRow (B + 1) 2 1 (.slice (some ⟨B + 1, 0, none⟩) m m) m ((stL m (fun i => if i < 0 then q i else 0)).map (Value.int .i64))) := by
    have e : (stL m (fun i => if i < 0 then q i else 0)).map (Value.int .i64) = List.replicate m (.int .i64 0) := by
      unfold stL
      rw [List.map_map]
      apply List.ext_getElem (by simp)
      intro j h1 h2
      simp
    unfold Hid
    rw [e]; exact O2
  have NX : Hid (∀ j, stL m (updN (fun i => if i < j then q i else 0) j (q j)) = stL m (fun i => if i < j + 1 then q i else 0)) := fun j => stL_congr fun x hx => by
    unfold updN
    by_cases e : x = j
    · subst e; rw [if_pos rfl, if_pos (by omega)]
    · rw [if_neg e]
      show (if x < j then q x else 0) = _
      by_cases l : x < j
      · rw [if_pos l, if_pos (by omega)]
      · rw [if_neg l, if_neg (by omega)]
  have NE : Hid (stL m (fun i => if i < m then q i else 0) = stL m q) := stL_congr fun x hx => by rw [if_pos hx]
  have GB : Hid (g ≠ B + 1) := by unfold Hid; omega
  have HB := Lib.hid hB
  clear hU hS A1 A2 b1 b12 O2 lg hq
  go_enter Tryd.func55, Tryd.ntmps55
  go_wp2
  try rw [hw2]
  clear hw1 hw2 hmk c0 c2 hB z1
  go_loopw [13] (fun i wr => ∃ j : Nat, j ≤ m ∧ i = .int .i64 j ∧ Hid (wr.ownsRow (B + 1) 2 1 (.slice (some ⟨B + 1, 0, none⟩) m m) m ((stL m (fun i => if i < j then q i else 0)).map (Value.int .i64))) ∧ Hid (Ub wr g m S) ∧ Hid (Below B w wr)) (fun i _ => m - (intOf i).toNat)
  case atStart => exact ⟨0, by omega, rfl, R0, U2, B2⟩
  case round =>
    obtain ⟨j, hj, rfl, ho, hU, hBl⟩ := hrel
    by_cases cj : j < m
    · have k1 : decide (j < m) = true := by simpa using cj
      have k1' : decide ((j : Int) < (m : Int)) = true := decide_eq_true (by omega)
      have w3 := IntWalk.i64_in ((j : Int) + 1) (by omega)
      have j0 : (0 : Int) ≤ (j : Int) := by omega
      have j1 : (j : Int) < (m : Int) := by omega
      have u1 := hU.out.cell j cj
      have ZJ := Lib.hid (HZ.out j cj)
      have ql := QL.out j
      have NJ := NX.out j
      obtain ⟨s, hs⟩ : ∃ s, S j = s := ⟨_, rfl⟩
      rw [hs] at u1 ZJ
      obtain ⟨t, ht⟩ : ∃ t, q j = t := ⟨_, rfl⟩
      rw [ht] at ZJ ql NJ
      have old : wr.drew.cell? ⟨B + 1, j, none⟩ = some (.int .i64 0) := by
        show wr.cell? ⟨B + 1, j, none⟩ = _
        rw [ho.out.cellAt j (by omega)]
        simp [stL, cj]
      have fz : wr.drew.frozen? ⟨B + 1, j, none⟩ = false := ho.out.frozenAt j
      have ho' : wr.drew.ownsRow (B + 1) 2 1 (.slice (some ⟨B + 1, 0, none⟩) m m) m ((stL m (fun i => if i < j then q i else 0)).map (Value.int .i64)) := ho.out
      have hst := ho'.stored j (.int .i64 ((t : Nat) : Int))
      have S1 : Hid ((wr.drew.setCell ⟨B + 1, j, none⟩ (.int .i64 (t : Int))).ownsRow (B + 1) 2 1 (.slice (some ⟨B + 1, 0, none⟩) m m) m ((stL m (fun i => if i < j + 1 then q i else 0)).map (Value.int .i64))) := by
        have := hst.1
        rw [← List.map_set, stL_set, NJ] at this
        exact this
      have gB : g ≠ B + 1 := GB.out
      have U2 : Hid (Ub (wr.drew.setCell ⟨B + 1, j, none⟩ (.int .i64 (t : Int))) g m S) := (Below.heap_setCell wr.drew ⟨B + 1, j, none⟩ _ g gB).trans hU.out
      have B2 : Hid (Below B w (wr.drew.setCell ⟨B + 1, j, none⟩ (.int .i64 (t : Int)))) := (hBl.out.drew).setCell (p := ⟨B + 1, j, none⟩) (show B ≤ B + 1 by omega) _
      clear hst ho' ho hs ht NJ hU
      go_wp2_with fail
      refine (ZJ.out _).mono ?_
      rintro e w5 ⟨rfl, rfl⟩
      go_wp2
      go_roundw
      case rel => exact ⟨j + 1, by omega, by go_num, S1, U2, B2⟩
      case measure => simp [intOf]; omega
    · have k1 : decide (j < m) = false := by simpa using cj
      have k1' : decide ((j : Int) < (m : Int)) = false := decide_eq_false (by omega)
      obtain rfl : j = m := by omega
      rw [NE.out] at ho
      go_wp2
      go_ret
      refine ⟨_, rfl, ?_, by rw [HB.out]; exact hBl.out⟩
      have h := Ints.mono (B' := w.heap.size) (show Ints wr (B + 1) (.slice (some ⟨B + 1, 0, none⟩) j j) (stL j q) from by unfold Ints; rw [stL_len]; exact ho.out) (by have := HB.out; omega)
      rw [SE.out]; exact h

set_option maxRecDepth 100000 in
theorem iareAll (xs : List Int) (c : Int) (w : World) (v : Value) (hv : IntsAt w v xs) :
    Calls Tryd.prog 57 #[v, .int .i64 c] w fun e w' => e = .returned (.bool (xs.all (fun x => x == c))) ∧ w' = w := by
  obtain ⟨m, hm⟩ : ∃ m, xs.length = m := ⟨_, rfl⟩
  obtain ⟨a, cap, rfl, hc⟩ : ∃ a cap, v = .slice a m cap ∧ ∀ j, j < m → ∃ g off, a = some ⟨g, off, none⟩ ∧ w.cell? ⟨g, off + j, none⟩ = some (.int .i64 (xs.getD j 0)) := by
    obtain ⟨_, ⟨rfl, a, cap, rfl⟩ | ⟨g, off, cap, rfl, hc⟩⟩ := hv
    · rw [← hm]; exact ⟨a, cap, rfl, fun j hj => by simp at hj⟩
    · rw [hm]; exact ⟨_, cap, rfl, fun j hj => ⟨g, off, rfl, hc j (by omega)⟩⟩
  have hml : m ≤ 9223372036854775807 := by rw [← hm]; exact hv.1
  have HC := Lib.hid hc
  have NO : Hid (∀ j, j < m → xs.getD j 0 ≠ c → xs.all (fun x => x == c) = false) := fun j hj hn => by
    rw [List.all_eq_false]
    refine ⟨xs.getD j 0, ?_, by simpa using hn⟩
    rw [List.getD_eq_getElem?_getD, List.getElem?_eq_getElem (by omega)]
    exact List.getElem_mem _
  have YES : Hid ((∀ j, j < m → xs.getD j 0 = c) → xs.all (fun x => x == c) = true) := fun h => by
    rw [List.all_eq_true]
    intro x hx
    obtain ⟨j, hj, e⟩ := List.mem_iff_getElem.1 hx
    have := h j (by omega)
    rw [List.getD_eq_getElem?_getD, List.getElem?_eq_getElem hj] at this
    simp only [Option.getD_some, e] at this
    simpa using this
  obtain ⟨V, hV⟩ : ∃ V, xs.all (fun x => x == c) = V := ⟨_, rfl⟩
  rw [hV] at NO YES ⊢
  clear hv hc hm hV
  go_enter Tryd.func57, Tryd.ntmps57
  go_wp2
  go_loopw [9] (fun i wr => ∃ j : Nat, j ≤ m ∧ i = .int .i64 j ∧ Hid (∀ k, k < j → xs.getD k 0 = c) ∧ wr = w) (fun i _ => m - (intOf i).toNat)
  case atStart => exact ⟨0, by omega, rfl, fun k hk => by omega, rfl⟩
  case round =>
    obtain ⟨j, hj, rfl, hO, rfl⟩ := hrel
    by_cases cj : j < m
    · have k1 : decide (j < m) = true := by simpa using cj
      have k1' : decide ((j : Int) < (m : Int)) = true := decide_eq_true (by omega)
      have w3 := IntWalk.i64_in ((j : Int) + 1) (by omega)
      have j0 : (0 : Int) ≤ (j : Int) := by omega
      have j1 : (j : Int) < (m : Int) := by omega
      obtain ⟨g, off, rfl, cell⟩ := HC.out j cj
      have NJ := Lib.hid (NO.out j cj)
      obtain ⟨y, hy⟩ : ∃ y, xs.getD j 0 = y := ⟨_, rfl⟩
      rw [hy] at cell NJ
      have HY := Lib.hid hy
      clear hy
      by_cases e : y = c
      · have t : (y != c) = false := by simp [e]
        have O2 : Hid (∀ k, k < j + 1 → xs.getD k 0 = c) := fun k hk => by
          by_cases e2 : k = j
          · rw [e2, HY.out, e]
          · exact hO.out k (by omega)
        clear e
        go_wp2
        go_roundw
        case rel => exact ⟨j + 1, by omega, by go_num, O2, by first | rfl | trivial⟩
        case measure => simp [intOf]; omega
      · have t : (y != c) = true := by simpa using e
        have V2 := Lib.hid (NJ.out e)
        clear e
        go_wp2
        go_ret
        exact ⟨by rw [V2.out]; rfl, rfl⟩
    · have k1 : decide (j < m) = false := by simpa using cj
      have k1' : decide ((j : Int) < (m : Int)) = false := decide_eq_false (by omega)
      obtain rfl : j = m := by omega
      have V2 := Lib.hid (YES.out hO.out)
      go_wp2
      go_ret
      exact ⟨by rw [V2.out]; rfl, rfl⟩
end Go.Proofs.YtanfodbpgpfjmabDoor
