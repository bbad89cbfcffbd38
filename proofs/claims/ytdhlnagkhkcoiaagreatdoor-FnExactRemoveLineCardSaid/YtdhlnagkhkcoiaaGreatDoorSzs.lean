/- Sizes of the blocks, by the program; whether all numbers of a list are one. -/
import Derived.Test.YtdhlnagkhkcoiaaGreatDoorRpl
import Derived.Test.YtdhlnagkhkcoiaaGreatDoorPrc
namespace Go.Proofs.YtdhlnagkhkcoiaaGreatDoor
open Go.RowKit Go.Shelf
set_option linter.unusedVariables false
set_option linter.unusedSimpArgs false

def szS (m : Nat) (S : Nat → Nat) : List Int := stL m (fun i => cnt 32 (fun k => (S i).testBit k))
theorem stL_len (n : Nat) (f : Nat → Nat) : (stL n f).length = n := by simp [stL]

set_option maxRecDepth 100000 in
set_option maxHeartbeats 1000000 in
theorem iSizes (n m : Nat) (hm : m ≤ 128) (S : Nat → Nat) (g : Nat) (w : World) (hU : Ub w g m S) (hS : ∀ i, i < m → S i < 4294967296) :
    Calls Tryz.prog 86 #[.agg #[.int .i64 (n : Int), .slice (some ⟨g, 0, none⟩) m m]] w fun e w' => ∃ v, e = .returned v ∧ Ints w' w.heap.size v (szS m S) ∧ Below w.heap.size w w' := by
  obtain ⟨B, hB⟩ : ∃ B, w.heap.size = B := ⟨_, rfl⟩
  have lg : g < B := by rw [← hB]; exact hU.lt
  obtain ⟨w1, hw1⟩ : ∃ w1, w.alloc (.cells #[.int .i64 (n : Int), .slice (some ⟨g, 0, none⟩) m m] 45) = w1 := ⟨_, rfl⟩
  have z1 : w1.heap.size = B + 1 := by rw [← hw1, World.size_alloc, hB]
  have b1 : Below B w w1 := by rw [← hw1]; exact (Below.refl _ _).alloc (by omega) _
  have A1 : w1.heap[B]? = some (.cells #[.int .i64 (n : Int), .slice (some ⟨g, 0, none⟩) m m] 45 (0, 0)) := by rw [← hw1, ← hB]; exact heap_alloc_new _ _
  have hmk := run_make_row' (P := Tryz.prog) 40 2 (.int .i64 0) 8 Tryz.underlying40 Tryz.infoInt rfl .i64 .i64 m (by omega) (by omega) w1
  have O2 := World.ownsRow_lit (base := B + 1) (e := 2) (size := 1) w1 (madeCells #[.int .i64 0] m) m (by omega) (by unfold maxLen; omega) (by simp [size_madeCells])
  rw [toList_madeCells_one, z1] at O2
  have b12 : Below (B + 1) w1 (w1.alloc (.cells (madeCells #[.int .i64 0] m) 2)) := (Below.refl _ _).alloc (Nat.le_of_eq z1.symm) _
  obtain ⟨w2, hw2⟩ : ∃ w2, w1.alloc (.cells (madeCells #[.int .i64 0] m) 2) = w2 := ⟨_, rfl⟩
  rw [hw2, z1] at hmk
  rw [hw2] at O2 b12
  have c0 : w1.cell? ⟨B, 1, none⟩ = some (.slice (some ⟨g, 0, none⟩) m m) := by rw [cell_of_row w1 B 1 _ _ _ A1]; rfl
  have A2 := (b12.block B (Nat.lt_succ_self B)).trans A1
  have c2 : w2.cell? ⟨B, 1, none⟩ = some (.slice (some ⟨g, 0, none⟩) m m) := by rw [cell_of_row w2 B 1 _ _ _ A2]; rfl
  have U2 : Hid (Ub w2 g m S) := (hU.below b1 lg).below b12 (by omega)
  have B2 : Hid (Below B w w2) := b1.trans (b12.mono (by omega))
  obtain ⟨q, hq⟩ : ∃ q : Nat → Nat, q = fun i => cnt 32 (fun k => (S i).testBit k) := ⟨_, rfl⟩
  have QL : Hid (∀ i, q i ≤ 32) := fun i => by rw [hq]; exact cnt_le _ _
  have HZ : Hid (∀ i, i < m → ∀ W, Calls Tryz.prog 78 #[.int .u32 (S i : Nat)] W fun e w' => e = .returned (.int .i64 (q i : Nat)) ∧ w' = W.drew) := fun i hi W => by rw [hq]; exact isize (S i) W (hS i hi)
  have SE : Hid (szS m S = stL m q) := by unfold Hid szS; rw [hq]
  have R0 : Hid (w2.ownsRow (B + 1) 2 1 (.slice (some ⟨B + 1, 0, none⟩) m m) m ((stL m (fun i => if i < 0 then q i else 0)).map (Value.int .i64))) := by
    have e : (stL m (fun i => if i < 0 then q i else 0)).map (Value.int .i64) = List.replicate m (.int .i64 0) := by
      unfold stL
      rw [List.map_map]
      apply List.ext_getElem (by simp)
      intro j h1 h2
      simp
    unfold Hid
    rw [e]; exact O2
  have NX : Hid (∀ j, stL m (updN (fun i => if i < j then q i else 0) j (q j)) = stL m (fun i => if i < j + 1 then q i else 0)) := fun j => stL_congr fun x hx => by
    unfold updN
    by_cases e : x = j
    · subst e; rw [if_pos rfl, if_pos (by omega)]
    · rw [if_neg e]
      show (if x < j then q x else 0) = _
      by_cases l : x < j
      · rw [if_pos l, if_pos (by omega)]
      · rw [if_neg l, if_neg (by omega)]
  have NE : Hid (stL m (fun i => if i < m then q i else 0) = stL m q) := stL_congr fun x hx => by rw [if_pos hx]
  have GB : Hid (g ≠ B + 1) := by unfold Hid; omega
  have HB := Lib.hid hB
  clear hU hS A1 A2 b1 b12 O2 lg hq
  go_enter Tryz.func86, Tryz.ntmps86
  go_wp2
  try rw [hw2]
  clear hw1 hw2 hmk c0 c2 hB z1
  go_loopw [13] (fun i wr => ∃ j : Nat, j ≤ m ∧ i = .int .i64 j ∧ Hid (wr.ownsRow (B + 1) 2 1 (.slice (some ⟨B + 1, 0, none⟩) m m) m ((stL m (fun i => if i < j then q i else 0)).map (Value.int .i64))) ∧ Hid (Ub wr g m S) ∧ Hid (Below B w wr)) (fun i _ => m - (intOf i).toNat)
  case atStart => exact ⟨0, by omega, rfl, R0, U2, B2⟩
  case round =>
    obtain ⟨j, hj, rfl, ho, hU, hBl⟩ := hrel
    by_cases cj : j < m
    · have k1 : decide (j < m) = true := by simpa using cj
      have k1' : decide ((j : Int) < (m : Int)) = true := decide_eq_true (by omega)
      have w3 := IntWalk.i64_in ((j : Int) + 1) (by omega)
      have j0 : (0 : Int) ≤ (j : Int) := by omega
      have j1 : (j : Int) < (m : Int) := by omega
      have u1 := hU.out.cell j cj
      have ZJ := Lib.hid (HZ.out j cj)
      have ql := QL.out j
      have NJ := NX.out j
      obtain ⟨s, hs⟩ : ∃ s, S j = s := ⟨_, rfl⟩
      rw [hs] at u1 ZJ
      obtain ⟨t, ht⟩ : ∃ t, q j = t := ⟨_, rfl⟩
      rw [ht] at ZJ ql NJ
      have old : wr.drew.cell? ⟨B + 1, j, none⟩ = some (.int .i64 0) := by
        show wr.cell? ⟨B + 1, j, none⟩ = _
        rw [ho.out.cellAt j (by omega)]
        simp [stL, cj]
      have fz : wr.drew.frozen? ⟨B + 1, j, none⟩ = false := ho.out.frozenAt j
      have ho' : wr.drew.ownsRow (B + 1) 2 1 (.slice (some ⟨B + 1, 0, none⟩) m m) m ((stL m (fun i => if i < j then q i else 0)).map (Value.int .i64)) := ho.out
      have hst := ho'.stored j (.int .i64 ((t : Nat) : Int))
      have S1 : Hid ((wr.drew.setCell ⟨B + 1, j, none⟩ (.int .i64 (t : Int))).ownsRow (B + 1) 2 1 (.slice (some ⟨B + 1, 0, none⟩) m m) m ((stL m (fun i => if i < j + 1 then q i else 0)).map (Value.int .i64))) := by
        have := hst.1
        rw [← List.map_set, stL_set, NJ] at this
        exact this
      have gB : g ≠ B + 1 := GB.out
      have U2 : Hid (Ub (wr.drew.setCell ⟨B + 1, j, none⟩ (.int .i64 (t : Int))) g m S) := (Below.heap_setCell wr.drew ⟨B + 1, j, none⟩ _ g gB).trans hU.out
      have B2 : Hid (Below B w (wr.drew.setCell ⟨B + 1, j, none⟩ (.int .i64 (t : Int)))) := (hBl.out.drew).setCell (p := ⟨B + 1, j, none⟩) (show B ≤ B + 1 by omega) _
      clear hst ho' ho hs ht NJ hU
      go_wp2_with fail
      refine (ZJ.out _).mono ?_
      rintro e w5 ⟨rfl, rfl⟩
      go_wp2
      go_roundw
      case rel => exact ⟨j + 1, by omega, by go_num, S1, U2, B2⟩
      case measure => simp [intOf]; omega
    · have k1 : decide (j < m) = false := by simpa using cj
      have k1' : decide ((j : Int) < (m : Int)) = false := decide_eq_false (by omega)
      obtain rfl : j = m := by omega
      rw [NE.out] at ho
      go_wp2
      go_ret
      refine ⟨_, rfl, ?_, by rw [HB.out]; exact hBl.out⟩
      have h := Ints.mono (B' := w.heap.size) (show Ints wr (B + 1) (.slice (some ⟨B + 1, 0, none⟩) j j) (stL j q) from by unfold Ints; rw [stL_len]; exact ho.out) (by have := HB.out; omega)
      rw [SE.out]; exact h

set_option maxRecDepth 100000 in
theorem iareAll (xs : List Int) (c : Int) (w : World) (v : Value) (hv : IntsAt w v xs) :
    Calls Tryz.prog 88 #[v, .int .i64 c] w fun e w' => e = .returned (.bool (xs.all (fun x => x == c))) ∧ w' = w := by
  obtain ⟨m, hm⟩ : ∃ m, xs.length = m := ⟨_, rfl⟩
  obtain ⟨a, cap, rfl, hc⟩ : ∃ a cap, v = .slice a m cap ∧ ∀ j, j < m → ∃ g off, a = some ⟨g, off, none⟩ ∧ w.cell? ⟨g, off + j, none⟩ = some (.int .i64 (xs.getD j 0)) := by
    obtain ⟨_, ⟨rfl, a, cap, rfl⟩ | ⟨g, off, cap, rfl, hc⟩⟩ := hv
    · rw [← hm]; exact ⟨a, cap, rfl, fun j hj => by simp at hj⟩
    · rw [hm]; exact ⟨_, cap, rfl, fun j hj => ⟨g, off, rfl, hc j (by omega)⟩⟩
  have hml : m ≤ 9223372036854775807 := by rw [← hm]; exact hv.1
  have HC := Lib.hid hc
  have NO : Hid (∀ j, j < m → xs.getD j 0 ≠ c → xs.all (fun x => x == c) = false) := fun j hj hn => by
    rw [List.all_eq_false]
    refine ⟨xs.getD j 0, ?_, by simpa using hn⟩
    rw [List.getD_eq_getElem?_getD, List.getElem?_eq_getElem (by omega)]
    exact List.getElem_mem _
  have YES : Hid ((∀ j, j < m → xs.getD j 0 = c) → xs.all (fun x => x == c) = true) := fun h => by
    rw [List.all_eq_true]
    intro x hx
    obtain ⟨j, hj, e⟩ := List.mem_iff_getElem.1 hx
    have := h j (by omega)
    rw [List.getD_eq_getElem?_getD, List.getElem?_eq_getElem hj] at this
    simp only [Option.getD_some, e] at this
    simpa using this
  obtain ⟨V, hV⟩ : ∃ V, xs.all (fun x => x == c) = V := ⟨_, rfl⟩
  rw [hV] at NO YES ⊢
  clear hv hc hm hV
  go_enter Tryz.func88, Tryz.ntmps88
  go_wp2
  go_loopw [9] (fun i wr => ∃ j : Nat, j ≤ m ∧ i = .int .i64 j ∧ Hid (∀ k, k < j → xs.getD k 0 = c) ∧ wr = w) (fun i _ => m - (intOf i).toNat)
  case atStart => exact ⟨0, by omega, rfl, fun k hk => by omega, rfl⟩
  case round =>
    obtain ⟨j, hj, rfl, hO, rfl⟩ := hrel
    by_cases cj : j < m
    · have k1 : decide (j < m) = true := by simpa using cj
      have k1' : decide ((j : Int) < (m : Int)) = true := decide_eq_true (by omega)
      have w3 := IntWalk.i64_in ((j : Int) + 1) (by omega)
      have j0 : (0 : Int) ≤ (j : Int) := by omega
      have j1 : (j : Int) < (m : Int) := by omega
      obtain ⟨g, off, rfl, cell⟩ := HC.out j cj
      have NJ := Lib.hid (NO.out j cj)
      obtain ⟨y, hy⟩ : ∃ y, xs.getD j 0 = y := ⟨_, rfl⟩
      rw [hy] at cell NJ
      have HY := Lib.hid hy
      clear hy
      by_cases e : y = c
      · have t : (y != c) = false := by simp [e]
        have O2 : Hid (∀ k, k < j + 1 → xs.getD k 0 = c) := fun k hk => by
          by_cases e2 : k = j
          · rw [e2, HY.out, e]
          · exact hO.out k (by omega)
        clear e
        go_wp2
        go_roundw
        case rel => exact ⟨j + 1, by omega, by go_num, O2, by first | rfl | trivial⟩
        case measure => simp [intOf]; omega
      · have t : (y != c) = true := by simpa using e
        have V2 := Lib.hid (NJ.out e)
        clear e
        go_wp2
        go_ret
        exact ⟨by rw [V2.out]; rfl, rfl⟩
    · have k1 : decide (j < m) = false := by simpa using cj
      have k1' : decide ((j : Int) < (m : Int)) = false := decide_eq_false (by omega)
      obtain rfl : j = m := by omega
      have V2 := Lib.hid (YES.out hO.out)
      go_wp2
      go_ret
      exact ⟨by rw [V2.out]; rfl, rfl⟩

/-! The parameters of a design, by the program. -/
section
open Go.RowKit Go.Shelf
set_option linter.unusedVariables false
set_option linter.unusedSimpArgs false

def prm (a b c d e : Int) : Value := .agg #[.int .i64 a, .int .i64 b, .int .i64 c, .int .i64 d, .int .i64 e]
def sameL (xs : List Int) : Bool := xs.all (fun x => x == xs.getD 0 0)
/-- Balanced, of sizes Z and numbers of pairs P. -/
def parO (n m : Nat) (Z P : List Int) : Bool := decide (2 ≤ n) && (decide (0 < m) && (decide (2 ≤ Z.getD 0 0) && (sameL Z && sameL P)))
noncomputable def parV (n m : Nat) (Z P R : List Int) : Value := if parO n m Z P = true then prm n m (R.getD 0 0) (Z.getD 0 0) (P.getD 0 0) else prm 0 0 0 0 0
theorem Tryz.infoPrm : (Tryz.prog.info? 65).map (·.size) = some 5 := by kernel_rfl
theorem five (W : World) (g : Nat) (z0 z1 z2 z3 z4 a b c d e : Value) (T : TypeId) (h : W.heap[g]? = some (.cells #[z0, z1, z2, z3, z4] T (0, 0))) :
    (((((W.setCell ⟨g, 0, none⟩ a).setCell ⟨g, 1, none⟩ b).setCell ⟨g, 2, none⟩ c).setCell ⟨g, 3, none⟩ d).setCell ⟨g, 4, none⟩ e).heap[g]? = some (.cells #[a, b, c, d, e] T (0, 0)) ∧
    ∀ B w, B ≤ g → Below B w W → Below B w (((((W.setCell ⟨g, 0, none⟩ a).setCell ⟨g, 1, none⟩ b).setCell ⟨g, 2, none⟩ c).setCell ⟨g, 3, none⟩ d).setCell ⟨g, 4, none⟩ e) := by
  have h0 := heap_setCell_same W g 0 _ _ a h
  have h1 := heap_setCell_same _ g 1 _ _ b h0
  have h2 := heap_setCell_same _ g 2 _ _ c h1
  have h3 := heap_setCell_same _ g 3 _ _ d h2
  have h4 := heap_setCell_same _ g 4 _ _ e h3
  refine ⟨h4.trans rfl, fun B w hB hb => ?_⟩
  exact ((((hb.setCell (p := ⟨g, 0, none⟩) hB _).setCell (p := ⟨g, 1, none⟩) hB _).setCell (p := ⟨g, 2, none⟩) hB _).setCell (p := ⟨g, 3, none⟩) hB _).setCell (p := ⟨g, 4, none⟩) hB _
theorem cells5 (W : World) (g : Nat) (z0 z1 z2 z3 z4 : Value) (T : TypeId) (h : W.heap[g]? = some (.cells #[z0, z1, z2, z3, z4] T (0, 0))) :
    W.cell? ⟨g, 0, none⟩ = some z0 ∧ W.cell? ⟨g, 1, none⟩ = some z1 ∧ W.cell? ⟨g, 2, none⟩ = some z2 ∧ W.cell? ⟨g, 3, none⟩ = some z3 ∧ W.cell? ⟨g, 4, none⟩ = some z4 ∧
    W.frozen? ⟨g, 0, none⟩ = false ∧ W.frozen? ⟨g, 1, none⟩ = false ∧ W.frozen? ⟨g, 2, none⟩ = false ∧ W.frozen? ⟨g, 3, none⟩ = false ∧ W.frozen? ⟨g, 4, none⟩ = false :=
  ⟨by rw [cell_of_row W g 0 _ _ _ h]; rfl, by rw [cell_of_row W g 1 _ _ _ h]; rfl, by rw [cell_of_row W g 2 _ _ _ h]; rfl, by rw [cell_of_row W g 3 _ _ _ h]; rfl, by rw [cell_of_row W g 4 _ _ _ h]; rfl,
    frozen_of_row W g 0 _ _ h, frozen_of_row W g 1 _ _ h, frozen_of_row W g 2 _ _ h, frozen_of_row W g 3 _ _ h, frozen_of_row W g 4 _ _ h⟩

theorem IntsAt.first {W : World} {v : Value} {xs : List Int} {l : Nat} (h : IntsAt W v xs) (hl : xs.length = l) (h0 : 0 < l) : ∃ g o c, v = .slice (some ⟨g, o, none⟩) l c ∧ W.cell? ⟨g, o, none⟩ = some (.int .i64 (xs.getD 0 0)) := by
  obtain ⟨_, ⟨rfl, _⟩ | ⟨g, off, cap, rfl, hc⟩⟩ := h
  · simp at hl; omega
  · rw [hl]
    exact ⟨g, off, cap, rfl, by have := hc 0 (by omega); rwa [Nat.add_zero] at this⟩

set_option maxRecDepth 100000 in
set_option maxHeartbeats 4000000 in
theorem iParams (n m : Nat) (h1 : 1 ≤ n) (h32 : n ≤ 32) (hm : m ≤ 128) (S : Nat → Nat) (g : Nat) (w : World) (hU : Ub w g m S) (hS : ∀ i, i < m → S i < 4294967296) (hP : ∀ i, i < m → ∀ k, (S i).testBit k = true → k < n) (ht : Tab w) :
    Calls Tryz.prog 68 #[.agg #[.int .i64 (n : Int), .slice (some ⟨g, 0, none⟩) m m]] w fun e w' => e = .returned (.tuple #[parV n m (szS m S) (prA n (prF m (fun i x => (S i).testBit x)) n) (repL n m (fun i x => (S i).testBit x)), .bool (parO n m (szS m S) (prA n (prF m (fun i x => (S i).testBit x)) n))]) ∧ Below w.heap.size w w' := by
  have HSz := Lib.hid (fun W (h : Ub W g m S) => iSizes n m hm S g W h hS)
  have HPr := Lib.hid (fun W (h : Ub W g m S) (t : Tab W) => ipairs n m h1 h32 hm S g W h hS hP t)
  have HRp := Lib.hid (fun W (h : Ub W g m S) (t : Tab W) => irepl n m h1 h32 hm S g W h hS hP t)
  have LZ : Hid ((szS m S).length = m) := stL_len _ _
  have LP : Hid (2 ≤ n → 0 < (prA n (prF m (fun i x => (S i).testBit x)) n).length) := fun h => by
    obtain ⟨k, rfl⟩ : ∃ k, n = k + 2 := ⟨n - 2, by omega⟩
    have : ∀ a, 0 < (prA (k + 2) (prF m (fun i x => (S i).testBit x)) (a + 1)).length := fun a => by
      induction a with
      | zero => rw [prA, List.length_append, seg_len]; omega
      | succ a ih => rw [prA, List.length_append]; omega
    exact this (k + 1)
  have LR : Hid ((repL n m (fun i x => (S i).testBit x)).length = n) := repL_len _ _ _
  obtain ⟨Z, hZ⟩ : ∃ Z, szS m S = Z := ⟨_, rfl⟩
  obtain ⟨P, hPP⟩ : ∃ P, prA n (prF m (fun i x => (S i).testBit x)) n = P := ⟨_, rfl⟩
  obtain ⟨l, hlp⟩ : ∃ l, P.length = l := ⟨_, rfl⟩
  obtain ⟨R, hR⟩ : ∃ R, repL n m (fun i x => (S i).testBit x) = R := ⟨_, rfl⟩
  rw [hZ] at LZ ⊢
  rw [hPP, hlp] at LP
  rw [hPP]
  rw [hR] at LR ⊢
  simp only [hZ] at HSz
  simp only [hPP] at HPr
  simp only [hR] at HRp
  obtain ⟨B, hB⟩ : ∃ B, w.heap.size = B := ⟨_, rfl⟩
  have hpos : 0 < B := by rw [← hB]; exact ht.pos
  have lg : g < B := by rw [← hB]; exact hU.lt
  obtain ⟨w1, hw1⟩ : ∃ w1, w.alloc (.cells #[.int .i64 (n : Int), .slice (some ⟨g, 0, none⟩) m m] 45) = w1 := ⟨_, rfl⟩
  have z1 : w1.heap.size = B + 1 := by rw [← hw1, World.size_alloc, hB]
  have b1 : Below B w w1 := by rw [← hw1]; exact (Below.refl _ _).alloc (by omega) _
  have A1 : w1.heap[B]? = some (.cells #[.int .i64 (n : Int), .slice (some ⟨g, 0, none⟩) m m] 45 (0, 0)) := by rw [← hw1, ← hB]; exact heap_alloc_new _ _
  obtain ⟨w2, hw2⟩ : ∃ w2, w1.alloc (.cells #[.int .i64 0, .int .i64 0, .int .i64 0, .int .i64 0, .int .i64 0] 65) = w2 := ⟨_, rfl⟩
  have b12 : Below (B + 1) w1 w2 := by rw [← hw2]; exact (Below.refl _ _).alloc (Nat.le_of_eq z1.symm) _
  have b2 : Below B w w2 := b1.trans (b12.mono (by omega))
  have z2 : w2.heap.size = B + 2 := by rw [← hw2, World.size_alloc, z1]
  have R2 : w2.heap[B + 1]? = some (.cells #[.int .i64 0, .int .i64 0, .int .i64 0, .int .i64 0, .int .i64 0] 65 (0, 0)) := by rw [← hw2, ← z1]; exact heap_alloc_new _ _
  have A2 := (b12.block B (Nat.lt_succ_self B)).trans A1
  obtain ⟨K, hK⟩ : ∃ K : World → Prop, K = fun W => Ub W g m S ∧ W.heap[B]? = some (.cells #[.int .i64 (n : Int), .slice (some ⟨g, 0, none⟩) m m] 45 (0, 0)) ∧ W.heap[B + 1]? = some (.cells #[.int .i64 0, .int .i64 0, .int .i64 0, .int .i64 0, .int .i64 0] 65 (0, 0)) ∧ Below B w W ∧ B + 2 ≤ W.heap.size ∧ Tab W := ⟨_, rfl⟩
  have K2 : Hid (K w2) := by rw [hK]; exact ⟨hU.below b2 lg, A2, R2, b2, Nat.le_of_eq z2.symm, ht.below b2 hpos⟩
  have KN : Hid (∀ (b : Nat) (W W' : World), B + 2 ≤ b → Below b W W' → Hid (K W) → Hid (K W')) := fun b W W' hb bb h => by
    rw [hK] at h ⊢
    obtain ⟨q1, q2, q3, q4, q5, q6⟩ := h.out
    exact ⟨q1.below bb (by omega), (bb.block B (by omega)).trans q2, (bb.block (B + 1) (by omega)).trans q3, q4.trans (bb.mono (by omega)), Nat.le_trans q5 bb.size, q6.below bb (by omega)⟩
  have KO : Hid (∀ W, Hid (K W) → Ub W g m S ∧ Tab W ∧ Below B w W ∧ B + 2 ≤ W.heap.size ∧ W.heap[B + 1]? = some (.cells #[.int .i64 0, .int .i64 0, .int .i64 0, .int .i64 0, .int .i64 0] 65 (0, 0))) := fun W h => by
    rw [hK] at h; obtain ⟨q1, q2, q3, q4, q5, q6⟩ := h.out; exact ⟨q1, q6, q4, q5, q3⟩
  have KC : Hid (∀ W, Hid (K W) → W.cell? ⟨B, 0, none⟩ = some (.int .i64 (n : Int)) ∧ W.cell? ⟨B, 1, none⟩ = some (.slice (some ⟨g, 0, none⟩) m m) ∧ Hid (K W)) := fun W h => by
    have := h.out
    rw [hK] at this; obtain ⟨q1, q2, q3, q4, q5, q6⟩ := this
    exact ⟨by rw [cell_of_row W B 0 _ _ _ q2]; rfl, by rw [cell_of_row W B 1 _ _ _ q2]; rfl, h⟩
  have HB := Lib.hid hB
  -- an end: the parameters, or nothing
  have EN : Hid (∀ (W : World) (a b c d e : Int) (o : Bool), Hid (K W) → prm a b c d e = parV n m Z P R → o = parO n m Z P → ∀ (tmps : Array Value), tmps.getD 2 undef = .pointer (some ⟨B + 1, 0, none⟩) → tmps.getD 3 undef = .bool o →
      bodyPost Tryz.prog Tryz.f68 (fun e w' => e = .returned (.tuple #[parV n m Z P R, .bool (parO n m Z P)]) ∧ Below w.heap.size w w') Exit.ret { tmps := tmps, defers := [] } (((((W.setCell ⟨B + 1, 0, none⟩ (.int .i64 a)).setCell ⟨B + 1, 1, none⟩ (.int .i64 b)).setCell ⟨B + 1, 2, none⟩ (.int .i64 c)).setCell ⟨B + 1, 3, none⟩ (.int .i64 d)).setCell ⟨B + 1, 4, none⟩ (.int .i64 e))) := fun W a b c d e o hk hv ho tmps t2 t3 => by
    obtain ⟨-, -, kb, kz, kr⟩ := KO.out W hk
    obtain ⟨R9, F9⟩ := five W (B + 1) _ _ _ _ _ (.int .i64 a) (.int .i64 b) (.int .i64 c) (.int .i64 d) (.int .i64 e) _ kr
    have B9 := F9 B w (Nat.le_succ B) kb
    obtain ⟨w9, hw9⟩ : ∃ w9, (((((W.setCell ⟨B + 1, 0, none⟩ (.int .i64 a)).setCell ⟨B + 1, 1, none⟩ (.int .i64 b)).setCell ⟨B + 1, 2, none⟩ (.int .i64 c)).setCell ⟨B + 1, 3, none⟩ (.int .i64 d)).setCell ⟨B + 1, 4, none⟩ (.int .i64 e)) = w9 := ⟨_, rfl⟩
    rw [hw9] at R9 B9 ⊢
    have hld := run_loadVar_row (P := Tryz.prog) _ _ 65 65 #[.int .i64 a, .int .i64 b, .int .i64 c, .int .i64 d, .int .i64 e] (0, 0) _ R9 Tryz.underlying65 rfl Tryz.infoPrm
    have t2' : tmps[2]?.getD undef = .pointer (some ⟨B + 1, 0, none⟩) := by simpa using t2
    have t3' : tmps[3]?.getD undef = .bool o := by simpa using t3
    refine bodyPost_ret (v := .tuple #[.agg #[.int .i64 a, .int .i64 b, .int .i64 c, .int .i64 d, .int .i64 e], .bool o]) ?_ rfl ⟨by rw [← hv, ← ho]; rfl, by rw [HB.out]; exact B9⟩
    rw [results_cell_tmp rfl]
    simp [asAddr, Result.andThen, t2', t3', hld]
  have HST : Hid (∀ (W : World) (a b c d e : Int), Hid (K W) → (((((W.setCell ⟨B + 1, 0, none⟩ (.int .i64 a)).setCell ⟨B + 1, 1, none⟩ (.int .i64 b)).setCell ⟨B + 1, 2, none⟩ (.int .i64 c)).setCell ⟨B + 1, 3, none⟩ (.int .i64 d)).setCell ⟨B + 1, 4, none⟩ (.int .i64 e)).cell? ⟨B, 0, none⟩ = some (.int .i64 (n : Int)) ∧ (((((W.setCell ⟨B + 1, 0, none⟩ (.int .i64 a)).setCell ⟨B + 1, 1, none⟩ (.int .i64 b)).setCell ⟨B + 1, 2, none⟩ (.int .i64 c)).setCell ⟨B + 1, 3, none⟩ (.int .i64 d)).setCell ⟨B + 1, 4, none⟩ (.int .i64 e)).cell? ⟨B, 1, none⟩ = some (.slice (some ⟨g, 0, none⟩) m m)) := fun W a b c d e h => by
    have bb := (five W (B + 1) _ _ _ _ _ (.int .i64 a) (.int .i64 b) (.int .i64 c) (.int .i64 d) (.int .i64 e) _ (KO.out W h).2.2.2.2).2 (B + 1) W (Nat.le_refl _) (Below.refl _ _)
    exact ⟨(bb.cell (p := ⟨B, 0, none⟩) (Nat.lt_succ_self B)).trans (KC.out W h).1, (bb.cell (p := ⟨B, 1, none⟩) (Nat.lt_succ_self B)).trans (KC.out W h).2.1⟩
  have HPV : Hid (parO n m Z P = false → prm 0 0 0 0 0 = parV n m Z P R) := fun h => by unfold parV; rw [h]; rfl
  have HPT : Hid (parO n m Z P = true → prm n m (R.getD 0 0) (Z.getD 0 0) (P.getD 0 0) = parV n m Z P R) := fun h => by unfold parV; rw [h]; rfl
  by_cases k2 : n < 2
  · have PF : Hid (parO n m Z P = false) := by unfold Hid parO; rw [decide_eq_false (by omega)]; rfl
    have t1 : decide ((n : Int) < 2) = true := decide_eq_true (by omega)
    have t1' : decide (n < 2) = true := decide_eq_true k2
    obtain ⟨c0, c1, -⟩ := KC.out w2 K2
    obtain ⟨-, -, -, -, kr⟩ := KO.out w2 K2
    obtain ⟨d0, d1, d2, d3, d4, f0, f1, f2, f3, f4⟩ := cells5 w2 (B + 1) _ _ _ _ _ _ kr
    clear hU hS hP ht b1 b12 b2 A1 A2 R2 lg kr hK
    go_enter Tryz.func68, Tryz.ntmps68
    go_wp2
    exact EN.out w2 0 0 0 0 0 false K2 (HPV.out PF.out) PF.out.symm _ rfl rfl
  have t1 : decide ((n : Int) < 2) = false := decide_eq_false (by omega)
  have t1' : decide (n < 2) = false := decide_eq_false k2
  by_cases k3 : m = 0
  · have PF : Hid (parO n m Z P = false) := by unfold Hid parO; rw [decide_eq_false (show ¬ 0 < m by omega), Bool.false_and, Bool.and_false]
    have t2 : ((m : Int) == 0) = true := by simp [k3]
    have t2' : (m == 0) = true := by simp [k3]
    obtain ⟨c0, c1, -⟩ := KC.out w2 K2
    obtain ⟨-, -, -, -, kr⟩ := KO.out w2 K2
    obtain ⟨d0, d1, d2, d3, d4, f0, f1, f2, f3, f4⟩ := cells5 w2 (B + 1) _ _ _ _ _ _ kr
    clear hU hS hP ht b1 b12 b2 A1 A2 R2 lg kr hK k3
    go_enter Tryz.func68, Tryz.ntmps68
    go_wp2
    exact EN.out w2 0 0 0 0 0 false K2 (HPV.out PF.out) PF.out.symm _ rfl rfl
  have t2 : ((m : Int) == 0) = false := by simp [k3]
  have t2' : (m == 0) = false := by simp [k3]
  obtain ⟨c0, c1, -⟩ := KC.out w2 K2
  have K2d := KN.out (B + 2) w2 w2.drew (Nat.le_refl _) (Below.refl _ _).drew K2
  obtain ⟨wd, hwd⟩ : ∃ wd, w2.drew = wd := ⟨_, rfl⟩
  rw [hwd] at K2d
  clear hU hS hP ht b1 b12 b2 A1 A2 R2 lg hK
  go_enter Tryz.func68, Tryz.ntmps68
  go_wp2
  clear c0 c1
  go_region_held3 (fun w' => w'.cell? ⟨B, 0, none⟩ = some (.int .i64 (n : Int)) ∧ w'.cell? ⟨B, 1, none⟩ = some (.slice (some ⟨g, 0, none⟩) m m) ∧ Hid (K w')) (first | exact KC.out _ (by assumption) | exact KC.out _ (by rw [hwd]; assumption))
    (first
      | (go_at_call 86; (try rw [hwd]); refine (HSz.out _ (KO.out _ (by assumption)).1).mono ?_; rintro e wa ⟨ra, rfl, ia, ba⟩; have KA := KN.out _ _ _ (KO.out _ (by assumption)).2.2.2.1 ba (by assumption); have IA := Lib.hid (fun W' (h : Below wa.heap.size wa W') => ia.at.below h (Nat.le_refl _)); have BA := Lib.hid ba; clear ia ba)
      | (go_at_call 87; (try rw [hwd]); refine (HPr.out _ (KO.out _ (by assumption)).1 (KO.out _ (by assumption)).2.1).mono ?_; rintro e wb ⟨rb, rfl, ib, bb⟩; have KB := KN.out _ _ _ (KO.out _ (by assumption)).2.2.2.1 bb (by assumption); have IB := Lib.hid (fun W' (h : Below wb.heap.size wb W') => ib.at.below h (Nat.le_refl _)); have BB := Lib.hid bb; clear ib bb))
  all_goals
    first
      | (have ia := Lib.hid (IA.out _ BB.out); have ib := Lib.hid (IB.out _ (Below.refl _ _)); have kz := KB)
      | (have ia := Lib.hid (IA.out _ (Below.refl _ _)); have ib := Lib.hid (IB.out _ BA.out); have kz := KA)
    have KD := Lib.hid (fun d => KN.out _ _ _ (KO.out _ kz).2.2.2.1 (below_drewN (Below.refl _ _) d) kz)
    have m0 : (0 : Int) < (m : Int) := by omega
    have m0' : 0 < m := by omega
    have lp := LP.out (by omega)
    have n0 : (0 : Int) < (n : Int) := by omega
    have n0' : 0 < n := by omega
    obtain ⟨ga, oa, ca, rfl, cza⟩ := ia.out.first LZ.out m0'
    obtain ⟨gb, ob, cb, rfl, czb⟩ := ib.out.first hlp lp
    have lp0 : (0 : Int) < (l : Int) := by omega
    have HAa := Lib.hid (fun d c => iareAll Z c _ _ (ia.out.drewN d))
    have HAb := Lib.hid (fun d c => iareAll P c _ _ (ib.out.drewN d))
    obtain ⟨-, -, -, -, kr⟩ := KO.out _ kz
    obtain ⟨d0, d1, d2, d3, d4, f0, f1, f2, f3, f4⟩ := cells5 _ (B + 1) _ _ _ _ _ _ kr
    obtain ⟨c0, c1, -⟩ := KC.out _ kz
    have HZs : Hid (Z.all (fun x => x == Z.getD 0 0) = sameL Z) := rfl
    have HPs : Hid (P.all (fun x => x == P.getD 0 0) = sameL P) := rfl
    have PU : Hid (parO n m Z P = (decide (2 ≤ Z.getD 0 0) && (sameL Z && sameL P))) := by unfold Hid parO; rw [decide_eq_true (by omega : 2 ≤ n), decide_eq_true m0']; simp only [Bool.true_and]
    obtain ⟨sz, hsz⟩ : ∃ x, Z.getD 0 0 = x := ⟨_, rfl⟩
    obtain ⟨pz, hpz⟩ : ∃ x, P.getD 0 0 = x := ⟨_, rfl⟩
    rw [hsz] at cza
    rw [hpz] at czb
    have HAa2 := Lib.hid (fun d => HAa.out d sz)
    have HAb2 := Lib.hid (fun d => HAb.out d pz)
    simp only [← hsz, HZs.out] at HAa2
    simp only [← hpz, HPs.out] at HAb2
    simp only [hsz] at HAa2
    simp only [hpz] at HAb2
    have RE : Hid (parO n m Z P = true → prm n m (R.getD 0 0) sz pz = parV n m Z P R) := fun h => by rw [← hsz, ← hpz]; exact HPT.out h
    have KDD := Lib.hid (fun d => KN.out _ _ _ (KO.out _ kz).2.2.2.1 ((below_drewN (Below.refl _ _) d).drew) kz)
    rw [hsz] at PU
    by_cases k4 : sz < 2
    · have PF : Hid (parO n m Z P = false) := by rw [PU.out, decide_eq_false (by omega)]; rfl
      have t4 : decide (sz < 2) = true := decide_eq_true k4
      clear HAa HAb HAa2 HAb2 kr hsz hpz
      go_wp2
      go_quiet (fail)
      go_wp2
      exact EN.out _ 0 0 0 0 0 false (KD.out _) (HPV.out PF.out) PF.out.symm _ rfl rfl
    have t4 : decide (sz < 2) = false := decide_eq_false k4
    rw [decide_eq_true (by omega : 2 ≤ sz), Bool.true_and] at PU
    obtain ⟨b1, hb1⟩ : ∃ b, sameL Z = b := ⟨_, rfl⟩
    obtain ⟨b2, hb2⟩ : ∃ b, sameL P = b := ⟨_, rfl⟩
    simp only [hb1] at HAa2
    simp only [hb2] at HAb2
    rw [hb1, hb2] at PU
    clear HAa HAb kr hsz hpz hb1 hb2 HZs HPs
    cases b1 with
    | false =>
      have PF : Hid (parO n m Z P = false) := PU
      clear HAb2
      go_wp2
      go_quiet (fail)
      go_wp2_with fail
      refine (HAa2.out _).mono ?_
      rintro e w9 ⟨rfl, rfl⟩
      go_wp2
      exact EN.out _ 0 0 0 0 0 false (KD.out _) (HPV.out PF.out) PF.out.symm _ rfl rfl
    | true =>
      cases b2 with
      | false =>
        have PF : Hid (parO n m Z P = false) := PU
        go_wp2
        go_quiet (fail)
        go_wp2_with fail
        refine (HAa2.out _).mono ?_
        rintro e w9 ⟨rfl, rfl⟩
        go_wp2_with fail
        refine (HAb2.out _).mono ?_
        rintro e w9 ⟨rfl, rfl⟩
        go_wp2
        exact EN.out _ 0 0 0 0 0 false (KD.out _) (HPV.out PF.out) PF.out.symm _ rfl rfl
      | true =>
        have PT : Hid (parO n m Z P = true) := PU
        go_wp2
        go_quiet (fail)
        go_wp2_with fail
        refine (HAa2.out _).mono ?_
        rintro e w9 ⟨rfl, rfl⟩
        go_wp2_with fail
        refine (HAb2.out _).mono ?_
        rintro e w9 ⟨rfl, rfl⟩
        clear HAa2 HAb2
        go_wp2
        clear c0 c1 d0 d1 d2 d3 d4 f0 f1 f2 f3 f4
        refine wp_region_held_drew (S := fun w' => w'.cell? ⟨B, 0, none⟩ = some (.int .i64 (n : Int)) ∧ w'.cell? ⟨B, 1, none⟩ = some (.slice (some ⟨g, 0, none⟩) m m)) (by kernel_rfl) (by first | exact ⟨(KC.out _ (KDD.out _)).1, (KC.out _ (KDD.out _)).2.1⟩ | exact ⟨(KC.out _ (KD.out _)).1, (KC.out _ (KD.out _)).2.1⟩) (fun hHeld => ?_)
        refine wpAnyH_take (i := 0) (oi := { dst := some 43, op := Op.fieldAddr 45 (Operand.tmp 1) 0, type := 0, pos := "l10_designs.go:227", after := #[], guard := none }) (v := ?_) rfl (by kernel_rfl) (by kernel_rfl) (by kernel_rfl) (fun _ _ _ h => h) (Or.inl ⟨by rfl, ?_⟩) (by assumption) ?_
        rotate_left
        · intro w hSw; (try dsimp only at hSw); go_simp
          try with_reducible rfl
        simp only [Act.put, List.setIfInBounds_toArray, List.set_cons_zero, List.set_cons_succ]
        refine wpAnyH_take (i := 1) (oi := { dst := some 44, op := Op.load 2 (Operand.tmp 43), type := 2, pos := "l10_designs.go:227", after := #[{ on := 0, ground := Ground.data }], guard := none }) (v := ?_) rfl (by kernel_rfl) (by kernel_rfl) (by kernel_rfl) (fun _ _ _ h => h) (Or.inl ⟨by rfl, ?_⟩) (by assumption) ?_
        rotate_left
        · intro w hSw; (try dsimp only at hSw); go_simp
          try with_reducible rfl
        simp only [Act.put, List.setIfInBounds_toArray, List.set_cons_zero, List.set_cons_succ]
        refine wpAnyH_take (i := 2) (oi := { dst := some 45, op := Op.fieldAddr 45 (Operand.tmp 1) 1, type := 0, pos := "l10_designs.go:227", after := #[], guard := none }) (v := ?_) rfl (by kernel_rfl) (by kernel_rfl) (by kernel_rfl) (fun _ _ _ h => h) (Or.inl ⟨by rfl, ?_⟩) (by assumption) ?_
        rotate_left
        · intro w hSw; (try dsimp only at hSw); go_simp
          try with_reducible rfl
        simp only [Act.put, List.setIfInBounds_toArray, List.set_cons_zero, List.set_cons_succ]
        refine wpAnyH_take (i := 3) (oi := { dst := some 46, op := Op.load 43 (Operand.tmp 45), type := 43, pos := "l10_designs.go:227", after := #[{ on := 2, ground := Ground.data }], guard := none }) (v := ?_) rfl (by kernel_rfl) (by kernel_rfl) (by kernel_rfl) (fun _ _ _ h => h) (Or.inl ⟨by rfl, ?_⟩) (by assumption) ?_
        rotate_left
        · intro w hSw; (try dsimp only at hSw); go_simp
          try with_reducible rfl
        simp only [Act.put, List.setIfInBounds_toArray, List.set_cons_zero, List.set_cons_succ]
        refine wpAnyH_take (i := 4) (oi := { dst := some 47, op := Op.call { callee := Callee.builtin Builtin.len, args := #[Operand.tmp 46], argTypes := #[43] }, type := 3, pos := "l10_designs.go:227", after := #[{ on := 3, ground := Ground.data }], guard := none }) (v := ?_) rfl (by kernel_rfl) (by kernel_rfl) (by kernel_rfl) (fun _ _ _ h => h) (Or.inl ⟨by rfl, ?_⟩) (by assumption) ?_
        rotate_left
        · intro w hSw; (try dsimp only at hSw); go_simp
          try with_reducible rfl
        simp only [Act.put, List.setIfInBounds_toArray, List.set_cons_zero, List.set_cons_succ]
        refine wpAnyH_take (i := 5) (oi := { dst := some 48, op := Op.load 45 (Operand.tmp 1), type := 45, pos := "l10_designs.go:227", after := #[], guard := none }) (v := ?_) rfl (by kernel_rfl) (by kernel_rfl) (by kernel_rfl) (fun _ _ _ h => h) (Or.inl ⟨by rfl, ?_⟩) (by assumption) ?_
        rotate_left
        · intro w hSw; (try dsimp only at hSw); go_simp
          try with_reducible rfl
        simp only [Act.put, List.setIfInBounds_toArray, List.set_cons_zero, List.set_cons_succ]
        refine wpAnyH_take (i := 9) (oi := { dst := some 52, op := Op.move (Operand.tmp 6), type := 2, pos := "l10_designs.go:227", after := #[], guard := none }) (v := ?_) rfl (by kernel_rfl) (by kernel_rfl) (by kernel_rfl) (fun _ _ _ h => h) (Or.inl ⟨by rfl, ?_⟩) (by assumption) ?_
        rotate_left
        · intro w hSw; (try dsimp only at hSw); go_simp
          try with_reducible rfl
        simp only [Act.put, List.setIfInBounds_toArray, List.set_cons_zero, List.set_cons_succ]
        refine wpAnyH_take (i := 10) (oi := { dst := some 53, op := Op.move (Operand.tmp 7), type := 2, pos := "l10_designs.go:227", after := #[], guard := none }) (v := ?_) rfl (by kernel_rfl) (by kernel_rfl) (by kernel_rfl) (fun _ _ _ h => h) (Or.inl ⟨by rfl, ?_⟩) (by assumption) ?_
        rotate_left
        · intro w hSw; (try dsimp only at hSw); go_simp
          try with_reducible rfl
        simp only [Act.put, List.setIfInBounds_toArray, List.set_cons_zero, List.set_cons_succ]
        refine wpAnyH_ready (rs := [6]) (by kernel_rfl) (by simp) ?_
        refine AllReadyH.cons rfl (fun K' hK' => ?_) AllReadyH.nil
        go_simp
        go_wp2_with fail
        refine (HRp.out _ (KO.out _ (by first | exact KD.out _ | exact KDD.out _)).1 (KO.out _ (by first | exact KD.out _ | exact KDD.out _)).2.1).mono ?_
        rintro e wc ⟨rc, rfl, ic, bc⟩
        have KC9 := KN.out _ _ _ (KO.out _ (by first | exact KD.out _ | exact KDD.out _)).2.2.2.1 bc (by first | exact KD.out _ | exact KDD.out _)
        obtain ⟨gr, orr, cr, rfl, czr⟩ := ic.at.first LR.out h1
        obtain ⟨-, -, -, -, kr⟩ := KO.out _ KC9
        obtain ⟨d0, d1, d2, d3, d4, f0, f1, f2, f3, f4⟩ := cells5 _ (B + 1) _ _ _ _ _ _ kr
        clear ic bc kr
        refine hK'.out _ _ ⟨(KC.out _ KC9).1, (KC.out _ KC9).2.1⟩ (fun hHeld => ?_)
        clear hK' K'
        refine wpAnyH_take (i := 7) (oi := { dst := some 50, op := Op.indexAddr 40 (Operand.tmp 49) (Operand.const (Value.int IntKind.i64 0)), type := 0, pos := "l10_designs.go:227", after := #[{ on := 6, ground := Ground.data }], guard := none }) (v := ?_) rfl (by kernel_rfl) (by kernel_rfl) (by kernel_rfl) (fun _ _ _ h => h) (Or.inl ⟨by rfl, ?_⟩) (by assumption) ?_
        rotate_left
        · intro w hSw; (try dsimp only at hSw); go_simp
          try with_reducible rfl
        simp only [Act.put, List.setIfInBounds_toArray, List.set_cons_zero, List.set_cons_succ]
        refine wpAnyH_ready (rs := [8]) (by kernel_rfl) (by simp) ?_
        refine AllReadyH.cons rfl (fun K' hK' => ?_) AllReadyH.nil
        go_simp
        refine hK'.out _ _ ⟨(KC.out _ KC9).1, (KC.out _ KC9).2.1⟩ (fun hHeld => ?_)
        clear hK' K'
        refine wpAnyH_take (i := 11) (oi := { dst := some 54, op := Op.build 65 #[(0, Operand.tmp 44), (1, Operand.tmp 47), (2, Operand.tmp 51), (3, Operand.tmp 52), (4, Operand.tmp 53)], type := 65, pos := "l10_designs.go:227", after := #[{ on := 1, ground := Ground.data }, { on := 4, ground := Ground.data }, { on := 8, ground := Ground.data }, { on := 9, ground := Ground.data }, { on := 10, ground := Ground.data }], guard := none }) (v := ?_) rfl (by kernel_rfl) (by kernel_rfl) (by kernel_rfl) (fun _ _ _ h => h) (Or.inl ⟨by rfl, ?_⟩) (by assumption) ?_
        rotate_left
        · intro w hSw; (try dsimp only at hSw); go_simp
          try with_reducible rfl
        simp only [Act.put, List.setIfInBounds_toArray, List.set_cons_zero, List.set_cons_succ]
        refine wpAnyH_ready (rs := [12]) (by kernel_rfl) (by simp) ?_
        refine AllReadyH.cons rfl (fun K' hK' => ?_) AllReadyH.nil
        go_simp
        refine hK'.out _ _ (HST.out _ _ _ _ _ _ KC9) (fun hHeld => ?_)
        clear hK' K'
        refine wpAnyH_take (i := 13) (oi := { dst := some 3, op := Op.assign (Operand.const (Value.bool true)), type := 4, pos := "l10_designs.go:227", after := #[{ on := 12, ground := Ground.chain }, { on := 0, ground := Ground.phase }, { on := 1, ground := Ground.phase }, { on := 2, ground := Ground.phase }, { on := 3, ground := Ground.phase }, { on := 4, ground := Ground.phase }, { on := 5, ground := Ground.phase }, { on := 6, ground := Ground.phase }, { on := 7, ground := Ground.phase }, { on := 8, ground := Ground.phase }, { on := 9, ground := Ground.phase }, { on := 10, ground := Ground.phase }, { on := 11, ground := Ground.phase }, { on := 12, ground := Ground.phase }], guard := none }) (v := ?_) rfl (by kernel_rfl) (by kernel_rfl) (by kernel_rfl) (fun _ _ _ h => h) (Or.inl ⟨by rfl, ?_⟩) (by assumption) ?_
        rotate_left
        · intro w hSw; (try dsimp only at hSw); go_simp
          try with_reducible rfl
        simp only [Act.put, List.setIfInBounds_toArray, List.set_cons_zero, List.set_cons_succ]
        refine wpAnyH_done (by kernel_rfl) ?_ _
        clear hHeld
        go_wp2
        exact EN.out _ n m (R.getD 0 0) sz pz true KC9 (RE.out PT.out) PT.out.symm _ rfl rfl
end

/-! The parameters of a design: the model. -/
section
open Go.RowKit Go.Shelf
set_option linter.unusedVariables false
set_option linter.unusedSimpArgs false

def lens (xss : List (List Int)) : List Int := stL xss.length (fun i => (xss.getD i []).length)
theorem stL_getD (n : Nat) (f : Nat → Nat) (i : Nat) (h : i < n) : (stL n f).getD i 0 = ((f i : Nat) : Int) := by simp [stL, List.getD, h]
theorem sameL_no {xs : List Int} {j : Nat} (hj : j < xs.length) (h : xs.getD j 0 ≠ xs.getD 0 0) : sameL xs = false := by
  unfold sameL
  rw [List.all_eq_false]
  refine ⟨xs.getD j 0, ?_, by simpa using h⟩
  rw [List.getD_eq_getElem?_getD, List.getElem?_eq_getElem hj]
  exact List.getElem_mem _
theorem sameL_yes {xs : List Int} (h : ∀ j, j < xs.length → xs.getD j 0 = xs.getD 0 0) : sameL xs = true := by
  unfold sameL
  rw [List.all_eq_true]
  intro x hx
  obtain ⟨j, hj, e⟩ := List.mem_iff_getElem.1 hx
  have := h j hj
  rw [List.getD_eq_getElem?_getD, List.getElem?_eq_getElem hj] at this
  simp only [Option.getD_some, e] at this
  simpa using this

theorem IntsAt.cellAt {W : World} {g o l c : Nat} {xs : List Int} (h : IntsAt W (.slice (some ⟨g, o, none⟩) l c) xs) (hl : xs.length = l) {j : Nat} (hj : j < l) : W.cell? ⟨g, o + j, none⟩ = some (.int .i64 (xs.getD j 0)) := by
  obtain ⟨_, ⟨rfl, _⟩ | ⟨g', off, cap, e, hc⟩⟩ := h
  · simp at hl; omega
  · simp only [Value.slice.injEq, Option.some.injEq, Addr.mk.injEq] at e
    obtain ⟨⟨rfl, rfl, -⟩, -⟩ := e
    exact hc j (by omega)

set_option maxRecDepth 100000 in
set_option maxHeartbeats 4000000 in
theorem sParams (n : Nat) (h1 : 1 ≤ n) (h32 : n ≤ 32) (xss : List (List Int)) (hm : xss.length ≤ 128) (hb : ∀ i, i < xss.length → isBlk (n : Int) (xss.getD i [])) (w : World) (v : Value) (g : Nat) (c0 : w.cell? ⟨g, 0, none⟩ = some (.int .i64 (n : Int))) (c1 : w.cell? ⟨g, 1, none⟩ = some v) (hv : RowsAt w v xss) :
    Calls Tryz.prog 38 #[.pointer (some ⟨g, 0, none⟩)] w fun e w' => e = .returned (.tuple #[parV n xss.length (lens xss) (prA n (prF xss.length (memP xss)) n) (repL n xss.length (memP xss)), .bool (parO n xss.length (lens xss) (prA n (prF xss.length (memP xss)) n))]) ∧ Below w.heap.size w w' := by
  obtain ⟨B, hB⟩ : ∃ B, w.heap.size = B := ⟨_, rfl⟩
  have lg : g < B := by rw [← hB]; exact World.block_lt_of_cell? w _ c0
  have DC0 := fun W (h : Below B w W) => And.intro (show W.cell? ⟨g, 0, none⟩ = some (.int .i64 (n : Int)) from (h.cell (p := ⟨g, 0, none⟩) lg).trans c0) (show W.cell? ⟨g, 1, none⟩ = some v from (h.cell (p := ⟨g, 1, none⟩) lg).trans c1)
  have HPr := Lib.hid (fun W (h : Below B w W) => sPairs n h1 h32 xss hm W v g (DC0 W h).1 (DC0 W h).2 (hv.below h (by omega)))
  have HRp := Lib.hid (fun W (h : Below B w W) => sRepl n h32 xss hm hb W v g (DC0 W h).1 (DC0 W h).2 (hv.below h (by omega)))
  obtain ⟨a, cap, rfl, K0⟩ := hv.rowsIn
  have DC := Lib.hid DC0
  have LP : Hid (2 ≤ n → 0 < (prA n (prF xss.length (memP xss)) n).length) := fun h => by
    obtain ⟨k, rfl⟩ : ∃ k, n = k + 2 := ⟨n - 2, by omega⟩
    have : ∀ a, 0 < (prA (k + 2) (prF xss.length (memP xss)) (a + 1)).length := fun a => by
      induction a with
      | zero => rw [prA, List.length_append, seg_len]; omega
      | succ a ih => rw [prA, List.length_append]; omega
    exact this (k + 1)
  have LR : Hid ((repL n xss.length (memP xss)).length = n) := repL_len _ _ _
  have LQ := Lib.hid (prA_len n (prF xss.length (memP xss)) n)
  obtain ⟨P, hPP⟩ : ∃ P, prA n (prF xss.length (memP xss)) n = P := ⟨_, rfl⟩
  obtain ⟨R, hR⟩ : ∃ R, repL n xss.length (memP xss) = R := ⟨_, rfl⟩
  simp only [hPP] at HPr LP LQ ⊢
  simp only [hR] at HRp LR ⊢
  obtain ⟨l, hlp⟩ : ∃ l, P.length = l := ⟨_, rfl⟩
  rw [hlp] at LP LQ
  have llm : l ≤ 1024 := Nat.le_trans LQ.out (Nat.mul_le_mul h32 h32)
  obtain ⟨ln, hln⟩ : ∃ ln : Nat → Nat, ln = fun j => (xss.getD j []).length := ⟨_, rfl⟩
  obtain ⟨m, hmm⟩ : ∃ m, xss.length = m := ⟨_, rfl⟩
  have HZ : lens xss = stL m ln := by unfold lens; rw [hmm, hln]
  rw [hmm] at DC K0 hm ⊢
  rw [hB] at K0
  rw [HZ]
  have HK : Hid (∀ W, Below B w W → ∀ j, j < m → ∃ g1 o1 ua uc, a = some ⟨g1, o1, none⟩ ∧ W.cell? ⟨g1, o1 + j, none⟩ = some (.slice ua (ln j) uc) ∧ ln j ≤ 9223372036854775807) := fun W hW j hj => by
    obtain ⟨g1, o1, u, e1, e2, e3⟩ := K0 W hW j hj
    obtain ⟨ua, uc, rfl, -, -⟩ := e3.shape
    exact ⟨g1, o1, ua, uc, e1, by rw [e2, hln], by rw [hln]; exact e3.1⟩
  obtain ⟨Z, hZ⟩ : ∃ Z, stL m ln = Z := ⟨_, rfl⟩
  have Z0 : Hid (0 < m → Z.getD 0 0 = (ln 0 : Nat)) := fun h => by rw [← hZ]; exact stL_getD m ln 0 h
  have SZn : Hid (∀ j, j < m → ln j ≠ ln 0 → sameL Z = false) := fun j hj h => by
    refine sameL_no (j := j) (by rw [← hZ, stL_len]; exact hj) ?_
    rw [← hZ, stL_getD m ln j hj, stL_getD m ln 0 (by omega)]
    omega
  have SZy : Hid ((∀ j, j < m → ln j = ln 0) → sameL Z = true) := fun h => by
    refine sameL_yes fun j hj => ?_
    rw [← hZ, stL_len] at hj
    rw [← hZ, stL_getD m ln j hj, stL_getD m ln 0 (by omega), h j hj]
  rw [hZ]
  have SPn : Hid (∀ j, j < l → P.getD j 0 ≠ P.getD 0 0 → sameL P = false) := fun j hj h => sameL_no (by omega) h
  have SPy : Hid ((∀ j, j < l → P.getD j 0 = P.getD 0 0) → sameL P = true) := fun h => sameL_yes fun j hj => h j (by omega)
  obtain ⟨w1, hw1⟩ : ∃ w1, w.alloc (.cells #[.int .i64 0, .int .i64 0, .int .i64 0, .int .i64 0, .int .i64 0] 65) = w1 := ⟨_, rfl⟩
  have z1 : w1.heap.size = B + 1 := by rw [← hw1, World.size_alloc, hB]
  have b1 : Below B w w1 := by rw [← hw1]; exact (Below.refl _ _).alloc (by omega) _
  have R1 : w1.heap[B]? = some (.cells #[.int .i64 0, .int .i64 0, .int .i64 0, .int .i64 0, .int .i64 0] 65 (0, 0)) := by rw [← hw1, ← hB]; exact heap_alloc_new _ _
  obtain ⟨K, hK⟩ : ∃ K : World → Prop, K = fun W => W.heap[B]? = some (.cells #[.int .i64 0, .int .i64 0, .int .i64 0, .int .i64 0, .int .i64 0] 65 (0, 0)) ∧ Below B w W ∧ B + 1 ≤ W.heap.size := ⟨_, rfl⟩
  have K1 : Hid (K w1) := by rw [hK]; exact ⟨R1, b1, Nat.le_of_eq z1.symm⟩
  have KN : Hid (∀ (b : Nat) (W W' : World), B + 1 ≤ b → Below b W W' → Hid (K W) → Hid (K W')) := fun b W W' hb bb h => by
    rw [hK] at h ⊢
    obtain ⟨q3, q4, q5⟩ := h.out
    exact ⟨(bb.block B (by omega)).trans q3, q4.trans (bb.mono (by omega)), Nat.le_trans q5 bb.size⟩
  have KO : Hid (∀ W, Hid (K W) → Below B w W ∧ B + 1 ≤ W.heap.size ∧ W.heap[B]? = some (.cells #[.int .i64 0, .int .i64 0, .int .i64 0, .int .i64 0, .int .i64 0] 65 (0, 0))) := fun W h => by
    rw [hK] at h; obtain ⟨q3, q4, q5⟩ := h.out; exact ⟨q4, q5, q3⟩
  have HB := Lib.hid hB
  have EN : Hid (∀ (W : World) (a b c d e : Int) (o : Bool), Hid (K W) → prm a b c d e = parV n m Z P R → o = parO n m Z P → ∀ (tmps : Array Value), tmps.getD 2 undef = .pointer (some ⟨B, 0, none⟩) → tmps.getD 3 undef = .bool o →
      bodyPost Tryz.prog Tryz.f38 (fun e w' => e = .returned (.tuple #[parV n m Z P R, .bool (parO n m Z P)]) ∧ Below w.heap.size w w') Exit.ret { tmps := tmps, defers := [] } (((((W.setCell ⟨B, 0, none⟩ (.int .i64 a)).setCell ⟨B, 1, none⟩ (.int .i64 b)).setCell ⟨B, 2, none⟩ (.int .i64 c)).setCell ⟨B, 3, none⟩ (.int .i64 d)).setCell ⟨B, 4, none⟩ (.int .i64 e))) := fun W a b c d e o hk hv ho tmps t2 t3 => by
    obtain ⟨kb, kz, kr⟩ := KO.out W hk
    obtain ⟨R9, F9⟩ := five W B _ _ _ _ _ (.int .i64 a) (.int .i64 b) (.int .i64 c) (.int .i64 d) (.int .i64 e) _ kr
    have B9 := F9 B w (Nat.le_refl B) kb
    obtain ⟨w9, hw9⟩ : ∃ w9, (((((W.setCell ⟨B, 0, none⟩ (.int .i64 a)).setCell ⟨B, 1, none⟩ (.int .i64 b)).setCell ⟨B, 2, none⟩ (.int .i64 c)).setCell ⟨B, 3, none⟩ (.int .i64 d)).setCell ⟨B, 4, none⟩ (.int .i64 e)) = w9 := ⟨_, rfl⟩
    rw [hw9] at R9 B9 ⊢
    have hld := run_loadVar_row (P := Tryz.prog) _ _ 65 65 #[.int .i64 a, .int .i64 b, .int .i64 c, .int .i64 d, .int .i64 e] (0, 0) _ R9 Tryz.underlying65 rfl Tryz.infoPrm
    have t2' : tmps[2]?.getD undef = .pointer (some ⟨B, 0, none⟩) := by simpa using t2
    have t3' : tmps[3]?.getD undef = .bool o := by simpa using t3
    refine bodyPost_ret (v := .tuple #[.agg #[.int .i64 a, .int .i64 b, .int .i64 c, .int .i64 d, .int .i64 e], .bool o]) ?_ rfl ⟨by rw [← hv, ← ho]; rfl, by rw [HB.out]; exact B9⟩
    rw [results_cell_tmp rfl]
    simp [asAddr, Result.andThen, t2', t3', hld]
  have HST : Hid (∀ (W : World) (a b c d e : Int), Hid (K W) → ∀ q o u, q ≠ B → W.cell? ⟨q, o, none⟩ = some u → (((((W.setCell ⟨B, 0, none⟩ (.int .i64 a)).setCell ⟨B, 1, none⟩ (.int .i64 b)).setCell ⟨B, 2, none⟩ (.int .i64 c)).setCell ⟨B, 3, none⟩ (.int .i64 d)).setCell ⟨B, 4, none⟩ (.int .i64 e)).cell? ⟨q, o, none⟩ = some u) := fun W a b c d e h q o u hq hc => by
    rw [World.cell?_setCell_far _ _ _ _ (fun e => hq e.symm), World.cell?_setCell_far _ _ _ _ (fun e => hq e.symm), World.cell?_setCell_far _ _ _ _ (fun e => hq e.symm), World.cell?_setCell_far _ _ _ _ (fun e => hq e.symm), World.cell?_setCell_far _ _ _ _ (fun e => hq e.symm)]
    exact hc
  have GB : Hid (g ≠ B) := by unfold Hid; omega
  have HPV : Hid (parO n m Z P = false → prm 0 0 0 0 0 = parV n m Z P R) := fun h => by unfold parV; rw [h]; rfl
  have HPT : Hid (parO n m Z P = true → prm n m (R.getD 0 0) (Z.getD 0 0) (P.getD 0 0) = parV n m Z P R) := fun h => by unfold parV; rw [h]; rfl
  by_cases k2 : n < 2
  · have PF : Hid (parO n m Z P = false) := by unfold Hid parO; rw [decide_eq_false (by omega)]; rfl
    have t1 : decide ((n : Int) < 2) = true := decide_eq_true (by omega)
    have t1' : decide (n < 2) = true := decide_eq_true k2
    obtain ⟨c0, c1⟩ := DC.out w1 (KO.out w1 K1).1
    obtain ⟨-, -, kr⟩ := KO.out w1 K1
    obtain ⟨d0, d1, d2, d3, d4, f0, f1, f2, f3, f4⟩ := cells5 w1 B _ _ _ _ _ _ kr
    clear hv K0 hb b1 R1 lg kr hK hlp hPP hR hln hmm HZ hZ DC0
    go_enter Tryz.func38, Tryz.ntmps38
    go_wp2
    exact EN.out w1 0 0 0 0 0 false K1 (HPV.out PF.out) PF.out.symm _ rfl rfl
  have t1 : decide ((n : Int) < 2) = false := decide_eq_false (by omega)
  have t1' : decide (n < 2) = false := decide_eq_false k2
  by_cases k3 : m = 0
  · have PF : Hid (parO n m Z P = false) := by unfold Hid parO; rw [decide_eq_false (show ¬ 0 < m by omega), Bool.false_and, Bool.and_false]
    have t2 : ((m : Int) == 0) = true := by simp [k3]
    have t2' : (m == 0) = true := by simp [k3]
    obtain ⟨c0, c1⟩ := DC.out w1 (KO.out w1 K1).1
    obtain ⟨-, -, kr⟩ := KO.out w1 K1
    obtain ⟨d0, d1, d2, d3, d4, f0, f1, f2, f3, f4⟩ := cells5 w1 B _ _ _ _ _ _ kr
    clear hv K0 hb b1 R1 lg kr hK hlp hPP hR hln hmm HZ hZ DC0 k3
    go_enter Tryz.func38, Tryz.ntmps38
    go_wp2
    exact EN.out w1 0 0 0 0 0 false K1 (HPV.out PF.out) PF.out.symm _ rfl rfl
  have t2 : ((m : Int) == 0) = false := by simp [k3]
  have t2' : (m == 0) = false := by simp [k3]
  have m0 : (0 : Int) < (m : Int) := by omega
  have m0' : 0 < m := by omega
  have PU : Hid (parO n m Z P = (decide (2 ≤ Z.getD 0 0) && (sameL Z && sameL P))) := by unfold Hid parO; rw [decide_eq_true (by omega : 2 ≤ n), decide_eq_true m0']; simp only [Bool.true_and]
  have ZE := Z0.out m0'
  rw [ZE] at PU HPT
  obtain ⟨c0, c1⟩ := DC.out w1 (KO.out w1 K1).1
  obtain ⟨g1, o1, ua, uc, rfl, e0, lk⟩ := HK.out w1 (KO.out w1 K1).1 0 m0'
  rw [Nat.add_zero] at e0
  have CJ : Hid (∀ j, j < m → ∃ ua uc, w1.cell? ⟨g1, o1 + j, none⟩ = some (.slice ua (ln j) uc) ∧ ln j ≤ 9223372036854775807) := fun j hj => by
    obtain ⟨q1, q2, ua, uc, e1, e2, e3⟩ := HK.out w1 (KO.out w1 K1).1 j hj
    simp only [Option.some.injEq, Addr.mk.injEq] at e1
    obtain ⟨rfl, rfl, -⟩ := e1
    exact ⟨ua, uc, e2, e3⟩
  obtain ⟨k0, hk0⟩ : ∃ k, ln 0 = k := ⟨_, rfl⟩
  rw [hk0] at e0 lk PU HPT
  simp only [hk0] at SZn SZy
  have hlp2 := Lib.hid hlp
  clear hv K0 hb b1 R1 lg hK hPP hR hln hmm HZ hZ DC0 k3 HK hk0 ZE Z0 hlp
  go_enter Tryz.func38, Tryz.ntmps38
  go_wp2
  go_loopw [5] (fun i wr => ∃ j : Nat, j ≤ m ∧ i = .int .i64 j ∧ Hid (∀ k, k < j → ln k = k0) ∧ Hid (0 < j → 2 ≤ k0) ∧ wr = w1) (fun i _ => m - (intOf i).toNat)
  case atStart => exact ⟨0, by omega, rfl, fun k hk => by omega, fun h => by omega, by first | rfl | trivial⟩
  case round =>
    obtain ⟨j, hj, rfl, hO, hO2, rfl⟩ := hrel
    by_cases cj : j < m
    · have k4 : decide (j < m) = true := by simpa using cj
      have k4' : decide ((j : Int) < (m : Int)) = true := decide_eq_true (by omega)
      have w5 := IntWalk.i64_in ((j : Int) + 1) (by omega)
      have j0 : (0 : Int) ≤ (j : Int) := by omega
      have j1 : (j : Int) < (m : Int) := by omega
      obtain ⟨va, vc, ej, lj⟩ := CJ.out j cj
      have NZ := Lib.hid (SZn.out j cj)
      obtain ⟨y, hy⟩ : ∃ y, ln j = y := ⟨_, rfl⟩
      rw [hy] at ej lj NZ
      have HY := Lib.hid hy
      clear hy
      by_cases e : y = k0
      · have t5 : ((y : Int) != (k0 : Int)) = false := by simp [e]
        have t5' : (y != k0) = false := by simp [e]
        have O2 : Hid (∀ k, k < j + 1 → ln k = k0) := fun k hk => by
          by_cases e2 : k = j
          · rw [e2, HY.out, e]
          · exact hO.out k (by omega)
        by_cases f : k0 < 2
        · have t6 : decide ((k0 : Int) < 2) = true := decide_eq_true (by omega)
          have t6' : decide (k0 < 2) = true := decide_eq_true f
          have PF : Hid (parO n m Z P = false) := by rw [PU.out, decide_eq_false (by omega)]; rfl
          obtain ⟨-, -, kr⟩ := KO.out _ K1
          obtain ⟨d0, d1, d2, d3, d4, f0, f1, f2, f3, f4⟩ := cells5 _ B _ _ _ _ _ _ kr
          clear e kr
          go_wp2
          exact EN.out _ 0 0 0 0 0 false K1 (HPV.out PF.out) PF.out.symm _ rfl rfl
        · have t6 : decide ((k0 : Int) < 2) = false := decide_eq_false (by omega)
          have t6' : decide (k0 < 2) = false := decide_eq_false f
          clear e
          go_wp2
          go_roundw
          case rel => exact ⟨j + 1, by omega, by go_num, O2, fun _ => by omega, by first | rfl | trivial⟩
          case measure => simp [intOf]; omega
      · have t5 : ((y : Int) != (k0 : Int)) = true := by simp only [bne_iff_ne, ne_eq]; omega
        have t5' : (y != k0) = true := by simpa using e
        have PF : Hid (parO n m Z P = false) := by rw [PU.out, NZ.out e, Bool.false_and, Bool.and_false]; rfl
        obtain ⟨-, -, kr⟩ := KO.out _ K1
        obtain ⟨d0, d1, d2, d3, d4, f0, f1, f2, f3, f4⟩ := cells5 _ B _ _ _ _ _ _ kr
        clear e kr
        go_wp2
        exact EN.out _ 0 0 0 0 0 false K1 (HPV.out PF.out) PF.out.symm _ rfl rfl
    · have k4 : decide (j < m) = false := by simpa using cj
      have k4' : decide ((j : Int) < (m : Int)) = false := decide_eq_false (by omega)
      obtain rfl : j = m := by omega
      have k0b : 2 ≤ k0 := hO2.out m0'
      have PU2 : Hid (parO n j Z P = sameL P) := by rw [PU.out, SZy.out hO.out, decide_eq_true (by omega), Bool.true_and, Bool.true_and]; rfl
      have lp := LP.out (by omega)
      have lp0 : (0 : Int) < (l : Int) := by omega
      have n0 : (0 : Int) < (n : Int) := by omega
      have n0' : 0 < n := by omega
      clear PU SZn SZy hO hO2 CJ e0 lk
      go_wp2_with fail
      refine (HPr.out _ (KO.out _ K1).1).mono ?_
      rintro e w4 ⟨rb, rfl, ib, bb⟩
      have K4 := KN.out _ _ _ (KO.out _ K1).2.1 bb K1
      obtain ⟨gb, ob, cb, rfl, czb⟩ := ib.at.first hlp2.out lp
      have gbB : Hid (gb ≠ B) := by
        have h1 := (World.ownsRow.lt ib gb rfl).1
        have h2 := (KO.out _ K1).2.1
        unfold Hid; omega
      have CP : Hid (∀ k, k < l → w4.cell? ⟨gb, ob + k, none⟩ = some (.int .i64 (P.getD k 0))) := fun k hk => ib.at.cellAt hlp2.out hk
      have KD := Lib.hid (fun d => KN.out _ _ _ (KO.out _ K4).2.1 (below_drewN (Below.refl _ _) d) K4)
      have KDD := Lib.hid (fun d => KN.out _ _ _ (KO.out _ K4).2.1 ((below_drewN (Below.refl _ _) d).drew) K4)
      obtain ⟨pz, hpz⟩ : ∃ x, P.getD 0 0 = x := ⟨_, rfl⟩
      rw [hpz] at HPT czb
      simp only [hpz] at SPn SPy
      have c04 := (DC.out w4 (KO.out _ K4).1).1
      have c14 := (DC.out w4 (KO.out _ K4).1).2
      have SK : Hid (∀ W', Below w4.heap.size w4 W' → W'.cell? ⟨g, 0, none⟩ = some (.int .i64 (n : Int)) ∧ W'.cell? ⟨g, 1, none⟩ = some (.slice (some ⟨g1, o1, none⟩) j cap) ∧ W'.cell? ⟨gb, ob, none⟩ = some (.int .i64 pz)) := fun W' h => by
        have q := DC.out W' ((KO.out _ K4).1.trans (h.mono (Nat.le_trans (Nat.le_succ B) (KO.out _ K4).2.1)))
        exact ⟨q.1, q.2, (h.cell (p := ⟨gb, ob, none⟩) (World.block_lt_of_cell? w4 _ czb)).trans czb⟩
      clear ib bb hpz
      go_wp2
      go_loopw [7] (fun i wr => ∃ q : Nat, q ≤ l ∧ i = .int .i64 q ∧ Hid (∀ k, k < q → P.getD k 0 = pz) ∧ ∃ d, wr = w4.drewN d) (fun i _ => l - (intOf i).toNat)
      case atStart => exact ⟨0, by omega, rfl, fun k hk => by omega, 0, rfl⟩
      case round =>
        obtain ⟨q, hq, rfl, hO, d, rfl⟩ := hrel
        by_cases cq : q < l
        · have k5 : decide (q < l) = true := by simpa using cq
          have k5' : decide ((q : Int) < (l : Int)) = true := decide_eq_true (by omega)
          have w5 := IntWalk.i64_in ((q : Int) + 1) (by omega)
          have q0 : (0 : Int) ≤ (q : Int) := by omega
          have q1 : (q : Int) < (l : Int) := by omega
          have cell := CP.out q cq
          have NP := Lib.hid (SPn.out q cq)
          obtain ⟨y, hy⟩ : ∃ y, P.getD q 0 = y := ⟨_, rfl⟩
          rw [hy] at cell NP
          have HY := Lib.hid hy
          clear hy
          by_cases e : y = pz
          · have t5 : (y != pz) = false := by simp [e]
            have O2 : Hid (∀ k, k < q + 1 → P.getD k 0 = pz) := fun k hk => by
              by_cases e2 : k = q
              · rw [e2, HY.out, e]
              · exact hO.out k (by omega)
            clear e
            go_wp2
            go_quiet (fail)
            go_wp2
            go_roundw
            case rel => exact ⟨q + 1, by omega, by go_num, O2, _, by first | rfl | exact World.drewN_drewN _ _ _⟩
            case measure => simp [intOf]; omega
          · have t5 : (y != pz) = true := by simpa using e
            have PF : Hid (parO n j Z P = false) := by rw [PU2.out, NP.out e]; rfl
            obtain ⟨-, -, kr⟩ := KO.out _ K4
            obtain ⟨d0, d1, d2, d3, d4, f0, f1, f2, f3, f4⟩ := cells5 _ B _ _ _ _ _ _ kr
            clear e kr
            go_wp2
            go_quiet (fail)
            go_wp2
            exact EN.out _ 0 0 0 0 0 false (KD.out _) (HPV.out PF.out) PF.out.symm _ rfl rfl
        · have k5 : decide (q < l) = false := by simpa using cq
          have k5' : decide ((q : Int) < (l : Int)) = false := decide_eq_false (by omega)
          obtain rfl : q = l := by omega
          have PT : Hid (parO n j Z P = true) := by rw [PU2.out, SPy.out hO.out]; rfl
          clear hO SPn SPy CP
          go_wp2
          refine wp_region_held_drew (S := fun w' => w'.cell? ⟨g, 0, none⟩ = some (.int .i64 (n : Int)) ∧ w'.cell? ⟨g, 1, none⟩ = some (.slice (some ⟨g1, o1, none⟩) j cap) ∧ w'.cell? ⟨gb, ob, none⟩ = some (.int .i64 pz)) (by kernel_rfl) (by first | exact SK.out _ (below_drewN (Below.refl _ _) _) | exact SK.out _ (below_drewN (Below.refl _ _) _).drew) (fun hHeld => ?_)
          clear c04 c14 czb
          refine wpAnyH_take (i := 0) (oi := { dst := some 70, op := Op.move (Operand.tmp 0), type := 37, pos := "l10_designs.go:133", after := #[], guard := none }) (v := ?_) rfl (by kernel_rfl) (by kernel_rfl) (by kernel_rfl) (fun _ _ _ h => h) (Or.inl ⟨by rfl, ?_⟩) (by assumption) ?_
          rotate_left
          · intro w hSw; (try dsimp only at hSw); go_simp
            try with_reducible rfl
          simp only [Act.put, List.setIfInBounds_toArray, List.set_cons_zero, List.set_cons_succ]
          refine wpAnyH_take (i := 1) (oi := { dst := some 71, op := Op.nilCheck (Operand.tmp 70), type := 0, pos := "l10_designs.go:133", after := #[{ on := 0, ground := Ground.data }], guard := none }) (v := ?_) rfl (by kernel_rfl) (by kernel_rfl) (by kernel_rfl) (fun _ _ _ h => h) (Or.inl ⟨by rfl, ?_⟩) (by assumption) ?_
          rotate_left
          · intro w hSw; (try dsimp only at hSw); go_simp
            try with_reducible rfl
          simp only [Act.put, List.setIfInBounds_toArray, List.set_cons_zero, List.set_cons_succ]
          refine wpAnyH_take (i := 2) (oi := { dst := some 72, op := Op.fieldAddr 26 (Operand.tmp 71) 0, type := 0, pos := "l10_designs.go:133", after := #[{ on := 1, ground := Ground.data }], guard := none }) (v := ?_) rfl (by kernel_rfl) (by kernel_rfl) (by kernel_rfl) (fun _ _ _ h => h) (Or.inl ⟨by rfl, ?_⟩) (by assumption) ?_
          rotate_left
          · intro w hSw; (try dsimp only at hSw); go_simp
            try with_reducible rfl
          simp only [Act.put, List.setIfInBounds_toArray, List.set_cons_zero, List.set_cons_succ]
          refine wpAnyH_take (i := 3) (oi := { dst := some 73, op := Op.load 2 (Operand.tmp 72), type := 2, pos := "l10_designs.go:133", after := #[{ on := 2, ground := Ground.data }], guard := none }) (v := ?_) rfl (by kernel_rfl) (by kernel_rfl) (by kernel_rfl) (fun _ _ _ h => h) (Or.inl ⟨by rfl, ?_⟩) (by assumption) ?_
          rotate_left
          · intro w hSw; (try dsimp only at hSw); go_simp
            try with_reducible rfl
          simp only [Act.put, List.setIfInBounds_toArray, List.set_cons_zero, List.set_cons_succ]
          refine wpAnyH_take (i := 4) (oi := { dst := some 74, op := Op.move (Operand.tmp 0), type := 37, pos := "l10_designs.go:133", after := #[], guard := none }) (v := ?_) rfl (by kernel_rfl) (by kernel_rfl) (by kernel_rfl) (fun _ _ _ h => h) (Or.inl ⟨by rfl, ?_⟩) (by assumption) ?_
          rotate_left
          · intro w hSw; (try dsimp only at hSw); go_simp
            try with_reducible rfl
          simp only [Act.put, List.setIfInBounds_toArray, List.set_cons_zero, List.set_cons_succ]
          refine wpAnyH_take (i := 5) (oi := { dst := some 75, op := Op.nilCheck (Operand.tmp 74), type := 0, pos := "l10_designs.go:133", after := #[{ on := 4, ground := Ground.data }], guard := none }) (v := ?_) rfl (by kernel_rfl) (by kernel_rfl) (by kernel_rfl) (fun _ _ _ h => h) (Or.inl ⟨by rfl, ?_⟩) (by assumption) ?_
          rotate_left
          · intro w hSw; (try dsimp only at hSw); go_simp
            try with_reducible rfl
          simp only [Act.put, List.setIfInBounds_toArray, List.set_cons_zero, List.set_cons_succ]
          refine wpAnyH_take (i := 6) (oi := { dst := some 76, op := Op.fieldAddr 26 (Operand.tmp 75) 1, type := 0, pos := "l10_designs.go:133", after := #[{ on := 5, ground := Ground.data }], guard := none }) (v := ?_) rfl (by kernel_rfl) (by kernel_rfl) (by kernel_rfl) (fun _ _ _ h => h) (Or.inl ⟨by rfl, ?_⟩) (by assumption) ?_
          rotate_left
          · intro w hSw; (try dsimp only at hSw); go_simp
            try with_reducible rfl
          simp only [Act.put, List.setIfInBounds_toArray, List.set_cons_zero, List.set_cons_succ]
          refine wpAnyH_take (i := 7) (oi := { dst := some 77, op := Op.load 22 (Operand.tmp 76), type := 22, pos := "l10_designs.go:133", after := #[{ on := 6, ground := Ground.data }], guard := none }) (v := ?_) rfl (by kernel_rfl) (by kernel_rfl) (by kernel_rfl) (fun _ _ _ h => h) (Or.inl ⟨by rfl, ?_⟩) (by assumption) ?_
          rotate_left
          · intro w hSw; (try dsimp only at hSw); go_simp
            try with_reducible rfl
          simp only [Act.put, List.setIfInBounds_toArray, List.set_cons_zero, List.set_cons_succ]
          refine wpAnyH_take (i := 8) (oi := { dst := some 78, op := Op.call { callee := Callee.builtin Builtin.len, args := #[Operand.tmp 77], argTypes := #[22] }, type := 3, pos := "l10_designs.go:133", after := #[{ on := 7, ground := Ground.data }], guard := none }) (v := ?_) rfl (by kernel_rfl) (by kernel_rfl) (by kernel_rfl) (fun _ _ _ h => h) (Or.inl ⟨by rfl, ?_⟩) (by assumption) ?_
          rotate_left
          · intro w hSw; (try dsimp only at hSw); go_simp
            try with_reducible rfl
          simp only [Act.put, List.setIfInBounds_toArray, List.set_cons_zero, List.set_cons_succ]
          refine wpAnyH_take (i := 9) (oi := { dst := some 79, op := Op.move (Operand.tmp 0), type := 37, pos := "l10_designs.go:133", after := #[], guard := none }) (v := ?_) rfl (by kernel_rfl) (by kernel_rfl) (by kernel_rfl) (fun _ _ _ h => h) (Or.inl ⟨by rfl, ?_⟩) (by assumption) ?_
          rotate_left
          · intro w hSw; (try dsimp only at hSw); go_simp
            try with_reducible rfl
          simp only [Act.put, List.setIfInBounds_toArray, List.set_cons_zero, List.set_cons_succ]
          refine wpAnyH_take (i := 13) (oi := { dst := some 83, op := Op.move (Operand.tmp 4), type := 3, pos := "l10_designs.go:133", after := #[], guard := none }) (v := ?_) rfl (by kernel_rfl) (by kernel_rfl) (by kernel_rfl) (fun _ _ _ h => h) (Or.inl ⟨by rfl, ?_⟩) (by assumption) ?_
          rotate_left
          · intro w hSw; (try dsimp only at hSw); go_simp
            try with_reducible rfl
          simp only [Act.put, List.setIfInBounds_toArray, List.set_cons_zero, List.set_cons_succ]
          refine wpAnyH_take (i := 14) (oi := { dst := some 84, op := Op.move (Operand.tmp 6), type := 40, pos := "l10_designs.go:133", after := #[], guard := none }) (v := ?_) rfl (by kernel_rfl) (by kernel_rfl) (by kernel_rfl) (fun _ _ _ h => h) (Or.inl ⟨by rfl, ?_⟩) (by assumption) ?_
          rotate_left
          · intro w hSw; (try dsimp only at hSw); go_simp
            try with_reducible rfl
          simp only [Act.put, List.setIfInBounds_toArray, List.set_cons_zero, List.set_cons_succ]
          refine wpAnyH_take (i := 15) (oi := { dst := some 85, op := Op.indexAddr 40 (Operand.tmp 84) (Operand.const (Value.int IntKind.i64 0)), type := 0, pos := "l10_designs.go:133", after := #[{ on := 14, ground := Ground.data }], guard := none }) (v := ?_) rfl (by kernel_rfl) (by kernel_rfl) (by kernel_rfl) (fun _ _ _ h => h) (Or.inl ⟨by rfl, ?_⟩) (by assumption) ?_
          rotate_left
          · intro w hSw; (try dsimp only at hSw); go_simp
            try with_reducible rfl
          simp only [Act.put, List.setIfInBounds_toArray, List.set_cons_zero, List.set_cons_succ]
          refine wpAnyH_take (i := 16) (oi := { dst := some 86, op := Op.load 2 (Operand.tmp 85), type := 2, pos := "l10_designs.go:133", after := #[{ on := 15, ground := Ground.data }], guard := none }) (v := ?_) rfl (by kernel_rfl) (by kernel_rfl) (by kernel_rfl) (fun _ _ _ h => h) (Or.inl ⟨by rfl, ?_⟩) (by assumption) ?_
          rotate_left
          · intro w hSw; (try dsimp only at hSw); go_simp
            try with_reducible rfl
          simp only [Act.put, List.setIfInBounds_toArray, List.set_cons_zero, List.set_cons_succ]
          refine wpAnyH_ready (rs := [10]) (by kernel_rfl) (by simp) ?_
          refine AllReadyH.cons rfl (fun K' hK' => ?_) AllReadyH.nil
          go_simp
          go_wp2_with fail
          refine (HRp.out _ (KO.out _ (by first | exact KD.out _ | exact KDD.out _)).1).mono ?_
          rintro e wc ⟨rc, rfl, ic, bc⟩
          have KC9 := KN.out _ _ _ (KO.out _ (by first | exact KD.out _ | exact KDD.out _)).2.1 bc (by first | exact KD.out _ | exact KDD.out _)
          obtain ⟨s1, s2, s3⟩ := SK.out wc (by first | exact (below_drewN (Below.refl _ _) _).trans bc | exact ((below_drewN (Below.refl _ _) _).drew).trans bc)
          obtain ⟨gr, orr, cr, rfl, czr⟩ := ic.at.first LR.out n0'
          obtain ⟨-, -, kr⟩ := KO.out _ KC9
          obtain ⟨d0, d1, d2, d3, d4, f0, f1, f2, f3, f4⟩ := cells5 _ B _ _ _ _ _ _ kr
          clear ic bc kr
          refine hK'.out _ _ ⟨s1, s2, s3⟩ (fun hHeld => ?_)
          clear hK' K'
          refine wpAnyH_take (i := 11) (oi := { dst := some 81, op := Op.indexAddr 40 (Operand.tmp 80) (Operand.const (Value.int IntKind.i64 0)), type := 0, pos := "l10_designs.go:133", after := #[{ on := 10, ground := Ground.data }], guard := none }) (v := ?_) rfl (by kernel_rfl) (by kernel_rfl) (by kernel_rfl) (fun _ _ _ h => h) (Or.inl ⟨by rfl, ?_⟩) (by assumption) ?_
          rotate_left
          · intro w hSw; (try dsimp only at hSw); go_simp
            try with_reducible rfl
          simp only [Act.put, List.setIfInBounds_toArray, List.set_cons_zero, List.set_cons_succ]
          refine wpAnyH_ready (rs := [12]) (by kernel_rfl) (by simp) ?_
          refine AllReadyH.cons rfl (fun K' hK' => ?_) AllReadyH.nil
          go_simp
          refine hK'.out _ _ ⟨s1, s2, s3⟩ (fun hHeld => ?_)
          clear hK' K'
          refine wpAnyH_take (i := 17) (oi := { dst := some 87, op := Op.build 65 #[(0, Operand.tmp 73), (1, Operand.tmp 78), (2, Operand.tmp 82), (3, Operand.tmp 83), (4, Operand.tmp 86)], type := 65, pos := "l10_designs.go:133", after := #[{ on := 3, ground := Ground.data }, { on := 8, ground := Ground.data }, { on := 12, ground := Ground.data }, { on := 13, ground := Ground.data }, { on := 16, ground := Ground.data }], guard := none }) (v := ?_) rfl (by kernel_rfl) (by kernel_rfl) (by kernel_rfl) (fun _ _ _ h => h) (Or.inl ⟨by rfl, ?_⟩) (by assumption) ?_
          rotate_left
          · intro w hSw; (try dsimp only at hSw); go_simp
            try with_reducible rfl
          simp only [Act.put, List.setIfInBounds_toArray, List.set_cons_zero, List.set_cons_succ]
          refine wpAnyH_ready (rs := [18]) (by kernel_rfl) (by simp) ?_
          refine AllReadyH.cons rfl (fun K' hK' => ?_) AllReadyH.nil
          go_simp
          refine hK'.out _ _ ⟨HST.out _ _ _ _ _ _ KC9 _ _ _ GB.out s1, HST.out _ _ _ _ _ _ KC9 _ _ _ GB.out s2, HST.out _ _ _ _ _ _ KC9 _ _ _ gbB.out s3⟩ (fun hHeld => ?_)
          clear hK' K'
          refine wpAnyH_take (i := 19) (oi := { dst := some 3, op := Op.assign (Operand.const (Value.bool true)), type := 4, pos := "l10_designs.go:133", after := #[{ on := 18, ground := Ground.chain }, { on := 0, ground := Ground.phase }, { on := 1, ground := Ground.phase }, { on := 2, ground := Ground.phase }, { on := 3, ground := Ground.phase }, { on := 4, ground := Ground.phase }, { on := 5, ground := Ground.phase }, { on := 6, ground := Ground.phase }, { on := 7, ground := Ground.phase }, { on := 8, ground := Ground.phase }, { on := 9, ground := Ground.phase }, { on := 10, ground := Ground.phase }, { on := 11, ground := Ground.phase }, { on := 12, ground := Ground.phase }, { on := 13, ground := Ground.phase }, { on := 14, ground := Ground.phase }, { on := 15, ground := Ground.phase }, { on := 16, ground := Ground.phase }, { on := 17, ground := Ground.phase }, { on := 18, ground := Ground.phase }], guard := none }) (v := ?_) rfl (by kernel_rfl) (by kernel_rfl) (by kernel_rfl) (fun _ _ _ h => h) (Or.inl ⟨by rfl, ?_⟩) (by assumption) ?_
          rotate_left
          · intro w hSw; (try dsimp only at hSw); go_simp
            try with_reducible rfl
          simp only [Act.put, List.setIfInBounds_toArray, List.set_cons_zero, List.set_cons_succ]
          refine wpAnyH_done (by kernel_rfl) ?_ _
          clear hHeld
          go_wp2
          exact EN.out _ n j (R.getD 0 0) k0 pz true KC9 (HPT.out PT.out) PT.out.symm _ rfl rfl
end

/-! ParametersOf: both exported functions. -/
section
open Go.RowKit Go.Shelf
set_option linter.unusedVariables false
set_option linter.unusedSimpArgs false

theorem ends5 {fn : Func} (hfn : fn.results = #[.cell 2 65, .tmp 3]) (W : World) (q : Nat) (hk : W.heap[q]? = some (.cells #[.int .i64 0, .int .i64 0, .int .i64 0, .int .i64 0, .int .i64 0] 65 (0, 0))) (a b c d e : Int) (o : Value) (Φ : Ending → World → Prop)
    (hΦ : Φ (.returned (.tuple #[prm a b c d e, o])) (((((W.setCell ⟨q, 0, none⟩ (.int .i64 a)).setCell ⟨q, 1, none⟩ (.int .i64 b)).setCell ⟨q, 2, none⟩ (.int .i64 c)).setCell ⟨q, 3, none⟩ (.int .i64 d)).setCell ⟨q, 4, none⟩ (.int .i64 e))) (tmps : Array Value) (t2 : tmps.getD 2 undef = .pointer (some ⟨q, 0, none⟩)) (t3 : tmps.getD 3 undef = o) :
    bodyPost Tryz.prog fn Φ Exit.ret { tmps := tmps, defers := [] } (((((W.setCell ⟨q, 0, none⟩ (.int .i64 a)).setCell ⟨q, 1, none⟩ (.int .i64 b)).setCell ⟨q, 2, none⟩ (.int .i64 c)).setCell ⟨q, 3, none⟩ (.int .i64 d)).setCell ⟨q, 4, none⟩ (.int .i64 e)) := by
  obtain ⟨R9, -⟩ := five W q _ _ _ _ _ (.int .i64 a) (.int .i64 b) (.int .i64 c) (.int .i64 d) (.int .i64 e) _ hk
  obtain ⟨w9, hw9⟩ : ∃ w9, (((((W.setCell ⟨q, 0, none⟩ (.int .i64 a)).setCell ⟨q, 1, none⟩ (.int .i64 b)).setCell ⟨q, 2, none⟩ (.int .i64 c)).setCell ⟨q, 3, none⟩ (.int .i64 d)).setCell ⟨q, 4, none⟩ (.int .i64 e)) = w9 := ⟨_, rfl⟩
  rw [hw9] at R9 hΦ ⊢
  have hld := run_loadVar_row (P := Tryz.prog) _ _ 65 65 #[.int .i64 a, .int .i64 b, .int .i64 c, .int .i64 d, .int .i64 e] (0, 0) _ R9 Tryz.underlying65 rfl Tryz.infoPrm
  have t2' : tmps[2]?.getD undef = .pointer (some ⟨q, 0, none⟩) := by simpa using t2
  have t3' : tmps[3]?.getD undef = o := by simpa using t3
  refine bodyPost_ret (v := .tuple #[.agg #[.int .i64 a, .int .i64 b, .int .i64 c, .int .i64 d, .int .i64 e], o]) ?_ rfl hΦ
  rw [results_cell_tmp hfn]
  simp [asAddr, Result.andThen, t2', t3', hld]
theorem prm_form (n m : Nat) (Z P R : List Int) : ∃ a b c d e, parV n m Z P R = prm a b c d e := by
  unfold parV
  split <;> exact ⟨_, _, _, _, _, rfl⟩
/-- Whether a design is balanced. -/
noncomputable def dPar (n : Int) (xss : List (List Int)) : Bool := parO n.toNat xss.length (lens xss) (prA n.toNat (prF xss.length (memP xss)) n.toNat)
noncomputable def ParametersOf_0 (n : Int) (xss : List (List Int)) : Value := if desB n xss = true then parV n.toNat xss.length (lens xss) (prA n.toNat (prF xss.length (memP xss)) n.toNat) (repL n.toNat xss.length (memP xss)) else prm 0 0 0 0 0
noncomputable def ParametersOf_1 (n : Int) (xss : List (List Int)) : Int := if desB n xss = true then (if dPar n xss = true then 0 else 6) else 1
theorem form0 (n : Int) (xss : List (List Int)) : ∃ a b c d e, ParametersOf_0 n xss = prm a b c d e := by
  unfold ParametersOf_0
  split
  · exact prm_form _ _ _ _ _
  · exact ⟨_, _, _, _, _, rfl⟩
theorem parV_no {n m : Nat} {Z P R : List Int} (h : parO n m Z P = false) : parV n m Z P R = prm 0 0 0 0 0 := by unfold parV; rw [h]; rfl
/-- A store of five numbers over the zeros leaves what lies elsewhere. -/
theorem five_below (W : World) (q : Nat) (hk : W.heap[q]? = some (.cells #[.int .i64 0, .int .i64 0, .int .i64 0, .int .i64 0, .int .i64 0] 65 (0, 0))) (a b c d e : Int) (B : Nat) (w : World) (hB : B ≤ q) (hb : Below B w W) : Below B w (((((W.setCell ⟨q, 0, none⟩ (.int .i64 a)).setCell ⟨q, 1, none⟩ (.int .i64 b)).setCell ⟨q, 2, none⟩ (.int .i64 c)).setCell ⟨q, 3, none⟩ (.int .i64 d)).setCell ⟨q, 4, none⟩ (.int .i64 e)) := (five W q _ _ _ _ _ _ _ _ _ _ _ hk).2 B w hB hb

theorem sz_lens {n : Int} {m : Nat} {xss : List (List Int)} {S : Nat → Nat} (hm : xss.length = m) (hn : n ≤ 32) (hb : ∀ i, i < m → isBlk n (xss.getD i [])) (hS : ∀ i, i < m → ∀ k : Nat, (S i).testBit k = decide ((k : Int) ∈ xss.getD i [])) : szS m S = lens xss := by
  unfold szS lens
  rw [hm]
  refine stL_congr fun i hi => ?_
  rw [← cnt_fls, blk_fls hn (hb i hi).2 (hS i hi)]

end
end Go.Proofs.YtdhlnagkhkcoiaaGreatDoor
