/- IncidenceMatrix: the program's. -/
import Derived.Test.YtpgjomndfkkchabDoorImm
import Derived.Test.YtpgjomndfkkchabDoorIhs
import Derived.Test.YtpgjomndfkkchabDoorAtp
namespace Go.Proofs.YtpgjomndfkkchabDoor
open Go.RowKit Go.Shelf
set_option linter.unusedVariables false
set_option linter.unusedSimpArgs false

theorem Wb.setInt {w : World} {g k q y : Nat} {c : Nat → Nat} {z : Int} (h : Wb w g k c) (hc : w.cell? ⟨q, y, none⟩ = some (.int .i64 z)) (v : Value) : Wb (w.setCell ⟨q, y, none⟩ v) g k c := by
  by_cases e : g = q
  · subst e
    rw [cell_of_row w g y _ _ _ h] at hc
    by_cases hy : y < k
    · rw [war_get _ _ _ hy] at hc; simp at hc
    · rw [Array.getElem?_eq_none (by rw [war_size]; omega)] at hc; cases hc
  · unfold Wb
    rw [Below.heap_setCell w ⟨q, y, none⟩ v g e]
    exact h
/-- A row of which the first numbers are filled. -/
def rowJ (m : Nat) (f : Nat → Int) (j : Nat) : List Int := (List.range m).map (fun b => if b < j then f b else 0)
theorem rowJ_zero (m : Nat) (f : Nat → Int) : rowJ m f 0 = List.replicate m 0 := by
  unfold rowJ
  apply List.ext_getElem (by simp)
  intro j h1 h2
  simp
theorem rowJ_all (m : Nat) (f : Nat → Int) : rowJ m f m = (List.range m).map f := by
  unfold rowJ
  exact List.map_congr_left fun b hb => by rw [if_pos (List.mem_range.1 hb)]
theorem rowJ_len (m : Nat) (f : Nat → Int) (j : Nat) : (rowJ m f j).length = m := by simp [rowJ]
theorem rowJ_one (m : Nat) (f : Nat → Int) (j : Nat) (hj : j < m) (h : f j = 1) : (rowJ m f j).set j 1 = rowJ m f (j + 1) := by
  unfold rowJ
  rw [rowf_set _ hj]
  refine List.map_congr_left fun b hb => ?_
  by_cases e : b = j
  · subst e; rw [if_pos rfl, if_pos (by omega), h]
  · rw [if_neg e]
    by_cases l : b < j
    · rw [if_pos l, if_pos (by omega)]
    · rw [if_neg l, if_neg (by omega)]
theorem rowJ_nil (m : Nat) (f : Nat → Int) (j : Nat) (h : f j = 0) : rowJ m f j = rowJ m f (j + 1) := by
  unfold rowJ
  refine List.map_congr_left fun b hb => ?_
  by_cases e : b = j
  · subst e; rw [if_neg (by omega), if_pos (by omega), h]
  · by_cases l : b < j
    · rw [if_pos l, if_pos (by omega)]
    · rw [if_neg l, if_neg (by omega)]

theorem rowSet {w : World} {M L N m x j : Nat} {f : Nat → Int} {rows : List (List Int)} (h : RowsL w M L (.slice (some ⟨M, 0, none⟩) N N) (rows.set x (rowJ m f j))) (hr : rows.length = N) (hx : x < N) (hj : j < m) :
    ∃ q c' z, w.cell? ⟨M, x, none⟩ = some (.slice (some ⟨q, 0, none⟩) m c') ∧ w.cell? ⟨q, j, none⟩ = some (.int .i64 z) ∧ w.frozen? ⟨q, j, none⟩ = false ∧ M ≤ q ∧ q < L ∧
      (f j = 1 → RowsL (w.setCell ⟨q, j, none⟩ (.int .i64 1)) M L (.slice (some ⟨M, 0, none⟩) N N) (rows.set x (rowJ m f (j + 1)))) := by
  have e : (rows.set x (rowJ m f j)).getD x [] = rowJ m f j := getD_set_same _ _ _ _ (by omega)
  obtain ⟨g0, c0, q, c, ev, h1, h2, h3, h4, h5, h6⟩ := RowsL.set h (x := x) (y := j) (by rw [List.length_set]; omega) (by rw [e, rowJ_len]; exact hj)
  simp only [Value.slice.injEq, Option.some.injEq, Addr.mk.injEq] at ev
  obtain ⟨⟨e5, -⟩, -, e6⟩ := ev
  subst e5
  rw [e, rowJ_len] at h1
  refine ⟨q, c, _, h1, h2, h3, h4, h5, fun hf => ?_⟩
  have := h6 1
  rw [e, List.set_set, rowJ_one m f j hj hf] at this
  exact this

set_option maxRecDepth 100000 in
set_option maxHeartbeats 2000000 in
theorem iIncidenceMatrix (n : Int) (xss : List (List Int)) (hx : xss.length ≤ 1048576) (W : World) (v : Value) (hv : RowsAt W v xss) (ht : Tab W) :
    Calls Tryd.prog 29 #[.agg #[.int .i64 n, v]] W fun e w' => ∃ r, e = .returned (.tuple #[r, .int .i64 (IncidenceMatrix_1 n xss)]) ∧ RowsL w' W.heap.size w'.heap.size r (IncidenceMatrix_0 n xss) ∧ Below W.heap.size W w' := by
  obtain ⟨a, cap, rfl, -⟩ := hv.shape
  obtain ⟨m, hm⟩ : ∃ m, xss.length = m := ⟨_, rfl⟩
  rw [hm] at hv ⊢
  obtain ⟨B, hB⟩ : ∃ B, W.heap.size = B := ⟨_, rfl⟩
  have hpos : 0 < B := by rw [← hB]; exact ht.pos
  obtain ⟨w1, hw1⟩ : ∃ w1, W.alloc (.cells #[.int .i64 n, .slice a m cap] 26) = w1 := ⟨_, rfl⟩
  have z1 : w1.heap.size = B + 1 := by rw [← hw1, World.size_alloc, hB]
  have b1 : Below B W w1 := by rw [← hw1]; exact (Below.refl _ _).alloc (by omega) _
  have A1 : w1.heap[B]? = some (.cells #[.int .i64 n, .slice a m cap] 26 (0, 0)) := by rw [← hw1, ← hB]; exact heap_alloc_new _ _
  have c0 : w1.cell? ⟨B, 0, none⟩ = some (.int .i64 n) := by rw [cell_of_row w1 B 0 _ _ _ A1]; rfl
  have c1 : w1.cell? ⟨B, 1, none⟩ = some (.slice a m cap) := by rw [cell_of_row w1 B 1 _ _ _ A1]; rfl
  have HO := Lib.hid (iInc n xss hx w1 _ (hv.below b1 (by omega)) (ht.below b1 hpos))
  rw [z1] at HO
  have TB := Lib.hid ht
  have HB := Lib.hid hB
  have B1 := Lib.hid b1
  cases hp : desB n xss with
  | false =>
    have V : Hid (IncidenceMatrix_0 n xss = [] ∧ IncidenceMatrix_1 n xss = 1) := by unfold Hid IncidenceMatrix_0 IncidenceMatrix_1; rw [hp]; exact ⟨rfl, rfl⟩
    rw [hp] at HO
    clear hp hv A1 b1 ht
    go_enter Tryd.func29, Tryd.ntmps29
    go_wp2_with fail
    refine HO.out.mono ?_
    rintro e w2 ⟨z, rfl, ⟨hz, -⟩, b2⟩
    obtain rfl := hz rfl
    have s2 : B + 1 ≤ w2.heap.size := by have := b2.size; omega
    have B2 : Hid (Below B W w2) := B1.out.trans (b2.mono (by omega))
    have B3 : Hid (Below B W (w2.alloc (.cells #[.int .i64 0, .slice none 0 0] 57))) := B2.out.alloc (by omega) _
    clear b2 c0 c1
    go_wp2
    go_ret2
    exact ⟨_, by rw [V.out.2]; rfl, by rw [V.out.1]; exact RowsL.nil _ _ _ (Nat.le_refl _), by rw [HB.out]; exact B3.out⟩
  | true =>
    have D := of_desB hp
    have V : Hid (IncidenceMatrix_0 n xss = gridL n.toNat xss.length (inF xss) ∧ IncidenceMatrix_1 n xss = 0) := by unfold Hid IncidenceMatrix_0 IncidenceMatrix_1; rw [hp]; exact ⟨rfl, rfl⟩
    rw [hp] at HO
    obtain ⟨N, rfl⟩ : ∃ N : Nat, n = N := ⟨n.toNat, by have := D.1; omega⟩
    have ND : 1 ≤ N ∧ N ≤ 32 := by have := D.1; have := D.2.1; omega
    have HD := Lib.hid D
    have HW1 : Hid (w1.heap.size = B + 1) := z1
    clear hp hv A1 b1 ht D
    go_enter Tryd.func29, Tryd.ntmps29
    go_wp2_with fail
    refine HO.out.mono ?_
    rintro e w2 ⟨z, rfl, ⟨-, hz⟩, b2⟩
    obtain ⟨g, S, rfl, hg, hU, hS⟩ := hz rfl
    rw [hm] at hU hS ⊢
    have s2 : B + 1 ≤ w2.heap.size := by have := b2.size; omega
    have B2 : Below B W w2 := B1.out.trans (b2.mono (by omega))
    have B3 : Below B W (w2.alloc (.cells #[.int .i64 (N : Int), .slice (some ⟨g, 0, none⟩) m m] 57)) := B2.alloc (by omega) _
    have U3 : Ub (w2.alloc (.cells #[.int .i64 (N : Int), .slice (some ⟨g, 0, none⟩) m m] 57)) g m S := (heap_alloc_old _ _ hU.lt).trans hU
    have HRA := Lib.hid (fun W2 (h : Below w2.heap.size w2 W2) (hp : Tab W2) => iAt N m ND.1 ND.2 (by have := HD.out.2.2.1; omega) S g W2 (hU.below h hU.lt) (fun i hi => (hS i hi).1) (fun i hi k hk => by
      have e := (hS i hi).2 k
      rw [hk] at e
      have mem := of_decide_eq_true e.symm
      obtain ⟨q, hq, e2⟩ := List.mem_iff_getElem.1 mem
      have bk := (HD.out.2.2.2 i (by omega)).1.2 q hq
      unfold okAt at bk
      rw [List.getD_eq_getElem?_getD, List.getElem?_eq_getElem hq] at bk
      simp only [Option.getD_some, e2] at bk
      omega) hp)
    have m128 : m ≤ 128 := by have := HD.out.2.2.1; omega
    obtain ⟨F, hF⟩ : ∃ F, inF xss = F := ⟨_, rfl⟩
    have FE : Hid (∀ c, Rep N (atP S m) c → ∀ x j, x < N → j < m → F x j = if (c (x * 2 + j / 64)).testBit (j % 64) = true then 1 else 0) := fun c hr x j hx hj => by
      have e := (hr x hx j (by omega)).2
      rw [Nat.mul_comm] at e
      rw [e, ← hF]
      unfold inF atP
      rw [decide_eq_true hj, Bool.true_and, (hS j hj).2 x]
    have CB : Hid (∀ c, Rep N (atP S m) c → ∀ x, x < N → c (x * 2) < 18446744073709551616 ∧ c (x * 2 + 1) < 18446744073709551616) := fun c h x hx => ⟨by have := (h x hx 0 (by omega)).1; rwa [Nat.zero_div, Nat.add_zero, Nat.mul_comm] at this, by have := (h x hx 64 (by omega)).1; rwa [show 64 / 64 = 1 from rfl, Nat.mul_comm] at this⟩
    have V2 : Hid (IncidenceMatrix_1 (N : Int) xss = 0) := V.out.2
    have VV : Hid (IncidenceMatrix_0 (N : Int) xss = gridL N m F) := by rw [V.out.1, Int.toNat_natCast, hm, hF]; rfl
    have sz3 : (w2.alloc (.cells #[.int .i64 (N : Int), .slice (some ⟨g, 0, none⟩) m m] 57)).heap.size = w2.heap.size + 1 := World.size_alloc _ _
    have N3 : (w2.alloc (.cells #[.int .i64 (N : Int), .slice (some ⟨g, 0, none⟩) m m] 57)).heap[w2.heap.size]? = some (.cells #[.int .i64 (N : Int), .slice (some ⟨g, 0, none⟩) m m] 57 (0, 0)) := heap_alloc_new _ _
    have bb3 : Below w2.heap.size w2 (w2.alloc (.cells #[.int .i64 (N : Int), .slice (some ⟨g, 0, none⟩) m m] 57)) := (Below.refl _ _).alloc (Nat.le_refl _) _
    have TB2 := TB.out.below B2 hpos
    obtain ⟨D, hD⟩ : ∃ D, w2.heap.size = D := ⟨_, rfl⟩
    rw [hD] at s2 sz3 N3 bb3 HRA
    obtain ⟨w3, hw3⟩ : ∃ w3, w2.alloc (.cells #[.int .i64 (N : Int), .slice (some ⟨g, 0, none⟩) m m] 57) = w3 := ⟨_, rfl⟩
    rw [hw3] at B3 sz3 N3 bb3
    have hmk := run_make_row' (P := Tryd.prog) 22 37 (.slice none 0 0) 24 Tryd.underlying22 Tryd.infoRow rfl .i64 .i64 N (by omega) (by omega) w3
    have hmkI := fun W : World => run_make_row' (P := Tryd.prog) 37 2 (.int .i64 0) 8 Tryd.underlying37 Tryd.infoInt rfl .i64 .i64 m (by omega) (by omega) W
    have FR := RowsL.fresh w3 N (by unfold maxLen; omega)
    have bb4 : Below D w2 (w3.alloc (.cells (madeCells #[.slice none 0 0] N) 37)) := bb3.alloc (by omega) _
    have B4 : Below B W (w3.alloc (.cells (madeCells #[.slice none 0 0] N) 37)) := B3.alloc (by omega) _
    have N4 : (w3.alloc (.cells (madeCells #[.slice none 0 0] N) 37)).heap[D]? = some (.cells #[.int .i64 (N : Int), .slice (some ⟨g, 0, none⟩) m m] 57 (0, 0)) := (heap_alloc_old _ _ (by omega)).trans N3
    have sz4 : (w3.alloc (.cells (madeCells #[.slice none 0 0] N) 37)).heap.size = D + 2 := by rw [World.size_alloc, sz3]
    rw [sz3] at hmk FR
    obtain ⟨w4, hw4⟩ : ∃ w4, w3.alloc (.cells (madeCells #[.slice none 0 0] N) 37) = w4 := ⟨_, rfl⟩
    rw [hw4] at hmk FR bb4 B4 N4 sz4
    have HA := Lib.hid (HRA.out w4 bb4 (TB2.below bb4 (by omega)))
    have d30 : w3.cell? ⟨D, 0, none⟩ = some (.int .i64 (N : Int)) := by rw [cell_of_row w3 _ 0 _ _ _ N3]; rfl
    have d40 : w4.cell? ⟨D, 0, none⟩ = some (.int .i64 (N : Int)) := by rw [cell_of_row w4 _ 0 _ _ _ N4]; rfl
    have d41 : w4.cell? ⟨D, 1, none⟩ = some (.slice (some ⟨g, 0, none⟩) m m) := by rw [cell_of_row w4 _ 1 _ _ _ N4]; rfl
    rw [← gridP_zero N m F] at FR
    have R4 : Hid (RowsL w4 (D + 1) (D + 1 + 1) (.slice (some ⟨D + 1, 0, none⟩) N N) (gridP N m F 0)) := FR
    have BD : Hid (B + 1 ≤ D) := s2
    have B4 := Lib.hid B4
    have N4 := Lib.hid N4
    have GS : Hid (∀ j, j < N → (gridP N m F j).set j ((List.range m).map (F j)) = gridP N m F (j + 1)) := fun j h => gridP_succ N m F h
    have GL : Hid (∀ j, j ≤ N → (gridP N m F j).length = N) := fun j h => gridP_length N m F h
    have GA : Hid (gridP N m F N = gridL N m F) := gridP_all N m F
    clear b2 c0 c1 hU hS B3 N3 hg bb3 bb4 FR HRA hF TB2 V
    go_wp2_with fail
    try rw [hw4]
    refine HA.out.mono ?_
    rintro e w5 ⟨g2, c, rfl, hg2, hW, hR5, b5⟩
    rw [sz4] at hg2 b5
    have z5 : D + 2 ≤ w5.heap.size := by have := b5.size; omega
    have RR := Lib.hid (R4.out.below b5 (Nat.le_of_eq sz4))
    have RR := Lib.hid (RR.out.mono (Nat.le_refl _) z5 (Nat.le_refl _))
    obtain ⟨K, hK⟩ : ∃ K : World → Prop, K = fun W2 => Wb W2 g2 (N * 2) c ∧ W2.heap[D]? = some (.cells #[.int .i64 (N : Int), .slice (some ⟨g, 0, none⟩) m m] 57 (0, 0)) ∧ Below B W W2 ∧ g2 + 1 ≤ W2.heap.size := ⟨_, rfl⟩
    have K5 : Hid (K w5) := by rw [hK]; exact ⟨hW, (b5.block D (by omega)).trans N4.out, B4.out.trans (b5.mono (by have := BD.out; omega)), hW.lt⟩
    have KN : Hid (∀ (b : Nat) (W1 W2 : World), g2 + 1 ≤ b → Below b W1 W2 → Hid (K W1) → Hid (K W2)) := fun b W1 W2 hb bb h => by
      rw [hK] at h ⊢
      have := BD.out
      exact ⟨h.out.1.below bb (by omega), (bb.block D (by omega)).trans h.out.2.1, h.out.2.2.1.trans (bb.mono (by omega)), Nat.le_trans h.out.2.2.2 bb.size⟩
    have KP : Hid (∀ (W1 : World) (x : Nat) (v : Value), Hid (K W1) → Hid (K (W1.setCell ⟨D + 1, x, none⟩ v))) := fun W1 x v h => by
      rw [hK] at h ⊢
      have := BD.out
      have hz : (W1.setCell ⟨D + 1, x, none⟩ v).heap.size = W1.heap.size := by simp [World.setCell]
      exact ⟨(Below.heap_setCell W1 ⟨D + 1, x, none⟩ v g2 (show g2 ≠ D + 1 by omega)).trans h.out.1, (Below.heap_setCell W1 ⟨D + 1, x, none⟩ v D (show D ≠ D + 1 by omega)).trans h.out.2.1, h.out.2.2.1.setCell (p := ⟨D + 1, x, none⟩) (show B ≤ D + 1 by omega) v, by rw [hz]; exact h.out.2.2.2⟩
    have KI : Hid (∀ (W1 : World) (q y : Nat) (z : Int) (v : Value), D + 1 ≤ q → W1.cell? ⟨q, y, none⟩ = some (.int .i64 z) → Hid (K W1) → Hid (K (W1.setCell ⟨q, y, none⟩ v))) := fun W1 q y z v hq hc h => by
      rw [hK] at h ⊢
      have := BD.out
      have hz : (W1.setCell ⟨q, y, none⟩ v).heap.size = W1.heap.size := by simp [World.setCell]
      exact ⟨h.out.1.setInt hc v, (Below.heap_setCell W1 ⟨q, y, none⟩ v D (show D ≠ q by omega)).trans h.out.2.1, h.out.2.2.1.setCell (p := ⟨q, y, none⟩) (show B ≤ q by omega) v, by rw [hz]; exact h.out.2.2.2⟩
    have KC : Hid (∀ W1, Hid (K W1) → g2 + 1 ≤ W1.heap.size ∧ Below B W W1 ∧ W1.cell? ⟨D, 0, none⟩ = some (.int .i64 (N : Int)) ∧ W1.cell? ⟨D, 1, none⟩ = some (.slice (some ⟨g, 0, none⟩) m m)) := fun W1 h => by
      rw [hK] at h
      exact ⟨h.out.2.2.2, h.out.2.2.1, by rw [cell_of_row W1 D 0 _ _ _ h.out.2.1]; rfl, by rw [cell_of_row W1 D 1 _ _ _ h.out.2.1]; rfl⟩
    have KW : Hid (∀ W1 x, Hid (K W1) → x < N → W1.cell? ⟨g2, x * 2, none⟩ = some (.int .u64 (c (x * 2) : Nat)) ∧ W1.cell? ⟨g2, x * 2 + 1, none⟩ = some (.int .u64 (c (x * 2 + 1) : Nat))) := fun W1 x h hx => by
      rw [hK] at h; exact ⟨h.out.1.cell _ (by omega), h.out.1.cell _ (by omega)⟩
    have CB2 := Lib.hid (CB.out c hR5)
    have FE2 := Lib.hid (FE.out c hR5)
    clear hW hR5 b5 hK d30 d40 d41 hmk hw4 hw3 hD B4 N4 R4 HA CB FE B2 hpos sz4
    go_wp2
    go_loopw [23] (fun i wr => ∃ x : Nat, x ≤ N ∧ i = .int .i64 x ∧ Hid (RowsL wr (D + 1) wr.heap.size (.slice (some ⟨D + 1, 0, none⟩) N N) (gridP N m F x)) ∧ Hid (K wr)) (fun i _ => N - (intOf i).toNat)
    case atStart => exact ⟨0, by omega, rfl, RR, K5⟩
    case round =>
      obtain ⟨x, hx, rfl, hR, hKw⟩ := hrel
      by_cases cx : x < N
      · have k1 : decide (x < N) = true := by simpa using cx
        have k1' : decide ((x : Int) < (N : Int)) = true := decide_eq_true (by omega)
        have wx := IntWalk.i64_in ((x : Int) + 1) (by omega)
        have x0 : (0 : Int) ≤ (x : Int) := by omega
        have x1 : (x : Int) < (N : Int) := by omega
        obtain ⟨zr, -, -, -⟩ := KC.out wr hKw
        obtain ⟨m1, m2⟩ := KW.out wr x hKw cx
        obtain ⟨q1, q2⟩ := CB2.out x cx
        have FX := Lib.hid (fun j (hj : j < m) => FE2.out x j cx hj)
        have GX := GS.out x cx
        have LX := GL.out x hx
        obtain ⟨c2, hc2⟩ : ∃ c2 : Nat → Nat, c2 = fun k => c (x * 2 + k) := ⟨_, rfl⟩
        have e20 : c (x * 2) = c2 0 := by rw [hc2]; rfl
        have e21 : c (x * 2 + 1) = c2 1 := by rw [hc2]
        have FX2 : Hid (∀ j, j < m → F x j = if (c2 (j / 64)).testBit (j % 64) = true then 1 else 0) := fun j hj => by rw [FX.out j hj, hc2]
        rw [e20] at m1 q1
        rw [e21] at m2 q2
        have HH := Lib.hid (fun j W1 (hj : j < 128) => ihas c2 j W1 hj q1 q2)
        obtain ⟨I, hI⟩ : ∃ I, wr.heap.size = I := ⟨_, rfl⟩
        rw [hI] at zr hR
        have z6 : (wr.alloc (.cells #[.int .u64 (c2 0 : Nat), .int .u64 (c2 1 : Nat)] 64)).heap.size = I + 1 := by rw [World.size_alloc, hI]
        have X6 : Wb (wr.alloc (.cells #[.int .u64 (c2 0 : Nat), .int .u64 (c2 1 : Nat)] 64)) I 2 c2 := by
          rw [← hI]; exact heap_alloc_new _ _
        have b6 : Below I wr (wr.alloc (.cells #[.int .u64 (c2 0 : Nat), .int .u64 (c2 1 : Nat)] 64)) := (Below.refl _ _).alloc (Nat.le_of_eq hI.symm) _
        obtain ⟨w6, hw6⟩ : ∃ w6, wr.alloc (.cells #[.int .u64 (c2 0 : Nat), .int .u64 (c2 1 : Nat)] 64) = w6 := ⟨_, rfl⟩
        rw [hw6] at z6 X6 b6
        have K6 := KN.out I _ _ zr b6 hKw
        obtain ⟨-, -, f60, f61⟩ := KC.out _ K6
        have mk6 := hmkI w6
        have O7 := World.ownsRow_lit (base := I) (e := 2) (size := 1) w6 (madeCells #[.int .i64 0] m) m (by omega) (by unfold maxLen; omega) (by simp [size_madeCells])
        rw [toList_madeCells_one, z6] at O7
        have z7 : (w6.alloc (.cells (madeCells #[.int .i64 0] m) 2)).heap.size = I + 2 := by rw [World.size_alloc, z6]
        have b67 : Below (I + 1) w6 (w6.alloc (.cells (madeCells #[.int .i64 0] m) 2)) := (Below.refl _ _).alloc (Nat.le_of_eq z6.symm) _
        obtain ⟨w7, hw7⟩ : ∃ w7, w6.alloc (.cells (madeCells #[.int .i64 0] m) 2) = w7 := ⟨_, rfl⟩
        rw [hw7, z6] at mk6
        rw [hw7] at O7 z7 b67
        have K7 := KN.out _ _ _ (Nat.le_trans zr (Nat.le_succ I)) b67 K6
        have X7 := X6.below b67 (Nat.lt_succ_self I)
        have U7 : Ints w7 I (.slice (some ⟨I + 1, 0, none⟩) m m) (rowJ m (F x) 0) := by
          unfold Ints
          rw [rowJ_zero, List.length_replicate, List.map_replicate]
          exact O7
        have R7 := hR.out.below (b6.trans (b67.mono (Nat.le_succ I))) (Nat.le_of_eq hI)
        obtain ⟨g0, c0, ev, ⟨old, ho⟩, hf, -, -, hp⟩ := RowsL.put R7 (j := x) (by rw [LX]; exact cx) (by omega) U7
        simp only [Value.slice.injEq, Option.some.injEq, Addr.mk.injEq] at ev
        obtain ⟨⟨e5, -⟩, -, -⟩ := ev
        subst e5
        rw [z7] at hp
        have K8 := KP.out w7 x (.slice (some ⟨I + 1, 0, none⟩) m m) K7
        have X8 : Wb (w7.setCell ⟨D + 1, x, none⟩ (.slice (some ⟨I + 1, 0, none⟩) m m)) I 2 c2 := (Below.heap_setCell w7 ⟨D + 1, x, none⟩ _ I (show I ≠ D + 1 by omega)).trans X7
        have z8 : (w7.setCell ⟨D + 1, x, none⟩ (.slice (some ⟨I + 1, 0, none⟩) m m)).heap.size = I + 2 := by rw [← z7]; simp [World.setCell]
        obtain ⟨w8, hw8⟩ : ∃ w8, w7.setCell ⟨D + 1, x, none⟩ (.slice (some ⟨I + 1, 0, none⟩) m m) = w8 := ⟨_, rfl⟩
        rw [hw8] at hp K8 X8 z8
        obtain ⟨-, -, -, f81⟩ := KC.out _ K8
        have R8 := Lib.hid hp
        have X8 := Lib.hid X8
        have HG : Hid (g2 + 1 ≤ I ∧ D + 2 ≤ g2) := ⟨zr, hg2⟩
        have GX := Lib.hid GX
        clear hc2 e20 e21 X6 b6 b67 K6 K7 X7 U7 R7 hp O7 hR FX q1 q2 hKw
        go_wp2
        try rw [hw8]
        clear hw6 hw7 hw8 mk6 m1 m2 f60 f61 f81 ho hf hI z6 z7
        go_loopw [38] (fun i wr => ∃ j : Nat, j ≤ m ∧ i = .int .i64 j ∧ Hid (RowsL wr (D + 1) (I + 2) (.slice (some ⟨D + 1, 0, none⟩) N N) ((gridP N m F x).set x (rowJ m (F x) j))) ∧ Hid (K wr) ∧ Hid (Wb wr I 2 c2) ∧ Hid (I + 2 ≤ wr.heap.size)) (fun i _ => m - (intOf i).toNat)
        case atStart => exact ⟨0, by omega, rfl, R8, K8, X8, Nat.le_of_eq z8.symm⟩
        case round =>
          obtain ⟨j, hj, rfl, hR9, hK9, hX9, hz9⟩ := hrel
          by_cases cj : j < m
          · have k3 : decide (j < m) = true := by simpa using cj
            have k3' : decide ((j : Int) < (m : Int)) = true := decide_eq_true (by omega)
            have wj := IntWalk.i64_in ((j : Int) + 1) (by omega)
            have j0 : (0 : Int) ≤ (j : Int) := by omega
            have j1 : (j : Int) < (m : Int) := by omega
            have n1 := hX9.out.cell 0 (by omega)
            have n2 := hX9.out.cell 1 (by omega)
            have HJ := Lib.hid (HH.out j wr (by omega))
            have FJ := Lib.hid (FX2.out j cj)
            obtain ⟨b1, hb1⟩ : ∃ q, (c2 (j / 64)).testBit (j % 64) = q := ⟨_, rfl⟩
            rw [hb1] at HJ FJ
            clear hb1
            cases b1 with
            | false =>
              have ST := Lib.hid (rowJ_nil m (F x) j (by rw [FJ.out]; rfl))
              clear FJ
              go_wp2_with fail
              refine HJ.out.mono ?_
              rintro e w9 ⟨rfl, b9⟩
              have R9 := Lib.hid (hR9.out.below b9 (by have := hz9.out; omega))
              have K9 := KN.out _ _ _ (KC.out _ hK9).1 b9 hK9
              have X9 := Lib.hid (hX9.out.below b9 (by have := hz9.out; omega))
              have Z9 : Hid (I + 2 ≤ w9.heap.size) := Nat.le_trans hz9.out b9.size
              clear b9 n1 n2
              go_wp2
              go_roundw
              case rel => exact ⟨j + 1, by omega, by go_num, by rw [← ST.out]; exact R9, K9, X9, Z9⟩
              case measure => simp [intOf]; omega
            | true =>
              go_wp2_with fail
              refine HJ.out.mono ?_
              rintro e w9 ⟨rfl, b9⟩
              have R9 := hR9.out.below b9 (by have := hz9.out; omega)
              have K9 := KN.out _ _ _ (KC.out _ hK9).1 b9 hK9
              have X9 := hX9.out.below b9 (by have := hz9.out; omega)
              have Z9 : Hid (I + 2 ≤ w9.heap.size) := Nat.le_trans hz9.out b9.size
              obtain ⟨q, c', z, h1, h2, h3, h4, h5, h6⟩ := rowSet R9 LX cx cj
              have S9 := Lib.hid (h6 (by rw [FJ.out]; rfl))
              have K10 := KI.out w9 q j z (.int .i64 1) h4 h2 K9
              have X10 := Lib.hid (X9.setInt h2 (.int .i64 1))
              have Z10 : Hid (I + 2 ≤ (w9.setCell ⟨q, j, none⟩ (.int .i64 1)).heap.size) := by
                have : (w9.setCell ⟨q, j, none⟩ (.int .i64 1)).heap.size = w9.heap.size := by simp [World.setCell]
                unfold Hid; rw [this]; exact Z9.out
              clear b9 n1 n2 R9 X9 h4 h5 h6 FJ
              go_wp2
              go_roundw
              case rel => exact ⟨j + 1, by omega, by go_num, S9, K10, X10, Z10⟩
              case measure => simp [intOf]; omega
          · have k3 : decide (j < m) = false := by simpa using cj
            have k3' : decide ((j : Int) < (m : Int)) = false := decide_eq_false (by omega)
            obtain rfl : j = m := by omega
            rw [rowJ_all, GX.out] at hR9
            have RN := Lib.hid (hR9.out.mono (Nat.le_refl _) hz9.out (Nat.le_refl _))
            go_wp2
            go_roundw
            case rel => exact ⟨x + 1, by omega, by go_num, RN, hK9⟩
            case measure => simp [intOf]; omega
      · have k1 : decide (x < N) = false := by simpa using cx
        have k1' : decide ((x : Int) < (N : Int)) = false := decide_eq_false (by omega)
        obtain rfl : x = N := by omega
        have B9 := Lib.hid (KC.out wr hKw).2.1
        rw [GA.out] at hR
        go_wp2
        go_ret2
        exact ⟨_, by rw [V2.out]; rfl, by rw [VV.out, HB.out]; exact hR.out.mono (by have := BD.out; omega) (Nat.le_refl _) (Nat.le_refl _), by rw [HB.out]; exact B9.out⟩
end Go.Proofs.YtpgjomndfkkchabDoor
