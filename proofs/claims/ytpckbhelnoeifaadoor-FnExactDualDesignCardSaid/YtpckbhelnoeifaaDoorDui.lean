/- DualDesign: the program's. -/
import Derived.Test.YtpckbhelnoeifaaDoorDum
import Derived.Test.YtpckbhelnoeifaaDoorAtp
namespace Go.Proofs.YtpckbhelnoeifaaDoor
open Go.RowKit Go.Shelf
set_option linter.unusedVariables false
set_option linter.unusedSimpArgs false

theorem word_bits {N m : Nat} {S : Nat → Nat} {c : Nat → Nat} (hm : m ≤ 32) (h : Rep N (atP S m) c) {x : Nat} (hx : x < N) : c (x * 2) < 4294967296 ∧ ∀ i, (c (x * 2)).testBit i = (decide (i < m) && (S i).testBit x) := by
  have h64 : c (x * 2) < 18446744073709551616 := by have := (h x hx 0 (by omega)).1; rwa [Nat.zero_div, Nat.add_zero, Nat.mul_comm] at this
  have hb : ∀ i, (c (x * 2)).testBit i = (decide (i < m) && (S i).testBit x) := fun i => by
    by_cases k : i < 64
    · have := (h x hx i (by omega)).2
      rw [show i / 64 = 0 by omega, show i % 64 = i by omega, Nat.add_zero, Nat.mul_comm] at this
      exact this
    · rw [Nat.testBit_lt_two_pow (Nat.lt_of_lt_of_le h64 (by rw [show (18446744073709551616 : Nat) = 2 ^ 64 by decide]; exact Nat.pow_le_pow_right (by omega) (by omega))), decide_eq_false (show ¬ i < m by omega)]; rfl
  refine ⟨?_, hb⟩
  rw [show (4294967296 : Nat) = 2 ^ 32 by decide]
  refine Nat.lt_pow_two_of_testBit _ fun i hi => ?_
  rw [hb i, decide_eq_false (show ¬ i < m by omega)]; rfl
/-- The first x sets are there. -/
def fillS (S2 : Nat → Nat) (x : Nat) : Nat → Nat := fun k => if k < x then S2 k else 0
theorem fillS_succ {w : World} {g N x : Nat} {S2 : Nat → Nat} (h : Ub w g N (fillS S2 x)) (hx : x < N) : Ub (w.setCell ⟨g, x, none⟩ (.int .u32 (S2 x : Nat))) g N (fillS S2 (x + 1)) := by
  refine (h.set x (S2 x)).congr fun k hk => ?_
  unfold updN fillS
  by_cases e : k = x
  · rw [if_pos e, if_pos (by omega), e]
  · rw [if_neg e]
    by_cases l : k < x
    · rw [if_pos l, if_pos (by omega)]
    · rw [if_neg l, if_neg (by omega)]

set_option maxRecDepth 100000 in
set_option maxHeartbeats 4000000 in
theorem iDualDesign (n : Int) (xss : List (List Int)) (hx : xss.length ≤ 1048576) (W : World) (v : Value) (hv : RowsAt W v xss) (ht : Tab W) :
    Calls Tryd.prog 29 #[.agg #[.int .i64 n, v]] W fun e w' => ∃ z, e = .returned (.tuple #[.agg #[.int .i64 (DualDesign_N n xss), z], .int .i64 (DualDesign_C n xss)]) ∧ RowsL w' W.heap.size w'.heap.size z (DualDesign_L n xss) ∧ Below W.heap.size W w' := by
  obtain ⟨a, cap, rfl, K⟩ := hv.rowsIn
  obtain ⟨m, hm⟩ : ∃ m, xss.length = m := ⟨_, rfl⟩
  rw [hm] at hv K ⊢
  obtain ⟨B, hB⟩ : ∃ B, W.heap.size = B := ⟨_, rfl⟩
  rw [hB] at K
  obtain ⟨w1, hw1⟩ : ∃ w1, W.alloc (.cells #[.int .i64 n, .slice a m cap] 30) = w1 := ⟨_, rfl⟩
  have z1 : w1.heap.size = B + 1 := by rw [← hw1, World.size_alloc, hB]
  have b1 : Below B W w1 := by rw [← hw1]; exact (Below.refl _ _).alloc (by omega) _
  have A1 : w1.heap[B]? = some (.cells #[.int .i64 n, .slice a m cap] 30 (0, 0)) := by rw [← hw1, ← hB]; exact heap_alloc_new _ _
  obtain ⟨w2, hw2⟩ : ∃ w2, w1.alloc (.cells #[.int .i64 0, .slice none 0 0] 30) = w2 := ⟨_, rfl⟩
  have z2 : w2.heap.size = B + 2 := by rw [← hw2, World.size_alloc, z1]
  have b12 : Below (B + 1) w1 w2 := by rw [← hw2]; exact (Below.refl _ _).alloc (Nat.le_of_eq z1.symm) _
  have b2 : Below B W w2 := b1.trans (b12.mono (by omega))
  have A2 : w2.heap[B]? = some (.cells #[.int .i64 n, .slice a m cap] 30 (0, 0)) := (b12.block B (by omega)).trans A1
  have R2 : w2.heap[B + 1]? = some (.cells #[.int .i64 0, .slice none 0 0] 30 (0, 0)) := by rw [← hw2, ← z1]; exact heap_alloc_new _ _
  have c0 : w2.cell? ⟨B, 0, none⟩ = some (.int .i64 n) := by rw [cell_of_row w2 B 0 _ _ _ A2]; rfl
  have c1 : w2.cell? ⟨B, 1, none⟩ = some (.slice a m cap) := by rw [cell_of_row w2 B 1 _ _ _ A2]; rfl
  have hpos : 0 < B := by rw [← hB]; exact ht.pos
  have HO := Lib.hid (iInc n xss hx w2 _ (hv.below b2 (by omega)) (ht.below b2 hpos))
  rw [z2] at HO
  have TB := Lib.hid ht
  have HB := Lib.hid hB
  have B2 := Lib.hid b2
  have HR := Lib.hid R2
  cases hp : desB n xss with
  | false =>
    have V := Lib.hid (dual_no hp)
    rw [hp] at HO
    clear hp hv A1 A2 b1 b12 b2 K R2 ht
    go_enter Tryd.func29, Tryd.ntmps29
    go_wp2_with fail
    try rw [hw1]
    try rw [hw2]
    refine HO.out.mono ?_
    rintro e w3 ⟨z, rfl, ⟨hz, -⟩, b3⟩
    obtain rfl := hz rfl
    have s3 : B + 2 ≤ w3.heap.size := by have := b3.size; omega
    have bb : Below (B + 2) w3 (w3.alloc (.cells #[.int .i64 0, .slice none 0 0] 61)) := (Below.refl _ _).alloc s3 _
    have RX : Hid ((w3.alloc (.cells #[.int .i64 0, .slice none 0 0] 61)).heap[B + 1]? = some (.cells #[.int .i64 0, .slice none 0 0] 30 (0, 0))) := (bb.block (B + 1) (by omega)).trans ((b3.block (B + 1) (by omega)).trans HR.out)
    have BX : Hid (Below B W (w3.alloc (.cells #[.int .i64 0, .slice none 0 0] 61))) := (B2.out.trans (b3.mono (by omega))).trans (bb.mono (by omega))
    obtain ⟨w4, hw4⟩ : ∃ W, w3.alloc (.cells #[.int .i64 0, .slice none 0 0] 61) = W := ⟨_, rfl⟩
    rw [hw4] at RX BX
    have Hw4 := Lib.hid hw4
    clear b3 bb c0 c1 hw4
    go_upto_region 2 with fail
    rw [Hw4.out]
    have f0 := frozen_of_row w4 (B + 1) 0 _ _ RX.out
    have f1 := frozen_of_row w4 (B + 1) 1 _ _ RX.out
    have d0 : w4.cell? ⟨B + 1, 0, none⟩ = some (.int .i64 0) := by rw [cell_of_row w4 (B + 1) 0 _ _ _ RX.out]; rfl
    have d1 : w4.cell? ⟨B + 1, 1, none⟩ = some (.slice none 0 0) := by rw [cell_of_row w4 (B + 1) 1 _ _ _ RX.out]; rfl
    go_wp2
    have R9 := set2_row w4 (B + 1) _ _ (.int .i64 0) (.slice none 0 0) _ RX.out
    have B9 := (BX.out.setCell (p := ⟨B + 1, 0, none⟩) (by simp only; omega) (.int .i64 0)).setCell (p := ⟨B + 1, 1, none⟩) (by simp only; omega) (.slice none 0 0)
    have hld := run_loadVar_row (P := Tryd.prog) _ _ 30 30 #[.int .i64 0, .slice none 0 0] (0, 0) _ R9 Tryd.underlying30 rfl Tryd.infoDes
    refine bodyPost_ret (v := .tuple #[.agg #[.int .i64 0, .slice none 0 0], .int .i64 1]) ?_ rfl ⟨_, by rw [V.out.1, V.out.2.2], ?_, by rw [HB.out]; exact B9⟩
    · rw [results_cell_tmp rfl]
      simp [asAddr, Result.andThen, hld]
    · rw [V.out.2.1]; exact RowsL.nil _ _ _ (Nat.le_refl _)
  | true =>
    have D := of_desB hp
    have m128 : m ≤ 128 := by have := D.2.2.1; omega
    obtain ⟨N, rfl⟩ : ∃ N : Nat, n = N := ⟨n.toNat, by have := D.1; omega⟩
    have n32 : N ≤ 32 := by have := D.2.1; omega
    have n1 : 1 ≤ N := by have := D.1; omega
    rw [hp] at HO
    have HD := Lib.hid D
    have RNG : Hid ((1 ≤ m ∧ m ≤ 32 → DualDesign_N (N : Int) xss = dxN m (setsL N m (inB xss)) ∧ DualDesign_L (N : Int) xss = dxL (setsL N m (inB xss)) ∧ DualDesign_C (N : Int) xss = dxC (setsL N m (inB xss))) ∧ (¬ (1 ≤ m ∧ m ≤ 32) → DualDesign_N (N : Int) xss = 0 ∧ DualDesign_L (N : Int) xss = [] ∧ DualDesign_C (N : Int) xss = 2)) := by
      refine ⟨fun k => ?_, fun k => dual_range hp (by rw [hm]; exact k)⟩
      have := dual_yes hp (by rw [hm]; exact k)
      rw [hm, Int.toNat_natCast] at this
      exact this
    clear hp hv A1 A2 b1 b12 b2 K R2 ht D
    go_enter Tryd.func29, Tryd.ntmps29
    go_wp2_with fail
    try rw [hw1]
    try rw [hw2]
    refine HO.out.mono ?_
    rintro e w3 ⟨z, rfl, ⟨-, hz⟩, b3⟩
    obtain ⟨g, S, rfl, hg, hU, hS⟩ := hz rfl
    rw [hm] at hU hS ⊢
    have s3 : B + 2 ≤ w3.heap.size := by have := b3.size; omega
    obtain ⟨D, hD⟩ : ∃ D, w3.heap.size = D := ⟨_, rfl⟩
    obtain ⟨w4, hw4⟩ : ∃ W, w3.alloc (.cells #[.int .i64 (N : Int), .slice (some ⟨g, 0, none⟩) m m] 61) = W := ⟨_, rfl⟩
    have b4 : Below D w3 w4 := by rw [← hw4, ← hD]; exact (Below.refl _ _).alloc (Nat.le_refl _) _
    have z4 : w4.heap.size = D + 1 := by rw [← hw4, World.size_alloc, hD]
    have N4 : w4.heap[D]? = some (.cells #[.int .i64 (N : Int), .slice (some ⟨g, 0, none⟩) m m] 61 (0, 0)) := by rw [← hw4, ← hD]; exact heap_alloc_new _ _
    rw [hD] at s3
    have hgD : g < D := by rw [← hD]; exact hU.lt
    have U4 := hU.below b4 hgD
    have RX : Hid (w4.heap[B + 1]? = some (.cells #[.int .i64 0, .slice none 0 0] 30 (0, 0))) := (b4.block (B + 1) (by omega)).trans ((b3.block (B + 1) (by omega)).trans HR.out)
    have BX : Hid (Below B W w4) := (B2.out.trans (b3.mono (by omega))).trans (b4.mono (by omega))
    have T4 := Lib.hid (TB.out.below BX.out hpos)
    have e0 : w4.cell? ⟨D, 0, none⟩ = some (.int .i64 (N : Int)) := by rw [cell_of_row w4 D 0 _ _ _ N4]; rfl
    have e1 : w4.cell? ⟨D, 1, none⟩ = some (.slice (some ⟨g, 0, none⟩) m m) := by rw [cell_of_row w4 D 1 _ _ _ N4]; rfl
    have Hw4 := Lib.hid hw4
    clear b3 b4 c0 c1 hw1 hw2 hw4
    go_upto_region 2 with fail
    rw [Hw4.out]
    clear Hw4
    by_cases hk : 1 ≤ m ∧ m ≤ 32
    · have t1 : decide ((m : Int) < 1) = false := decide_eq_false (by omega)
      have t3 : decide (m < 1) = false := decide_eq_false (by omega)
      have t4 : decide ((m : Int) > 32) = false := decide_eq_false (by omega)
      have t5 : decide ((32 : Int) < (m : Int)) = false := decide_eq_false (by omega)
      have t6 : decide (32 < m) = false := decide_eq_false (by omega)
      have V0 := RNG.out.1 hk
      have hm32 := hk.2
      have hmk := run_make_row' (P := Tryd.prog) 59 72 (.int .u32 0) 4 Tryd.underlying59 Tryd.infoSet rfl .i64 .i64 N (by omega) (by omega) w4
      obtain ⟨w5, hw5⟩ : ∃ W, w4.alloc (.cells (madeCells #[.int .u32 0] N) 72) = W := ⟨_, rfl⟩
      have b5 : Below (D + 1) w4 w5 := by rw [← hw5]; exact (Below.refl _ _).alloc (Nat.le_of_eq z4.symm) _
      have z5 : w5.heap.size = D + 2 := by rw [← hw5, World.size_alloc, z4]
      have U5 : Ub w5 (D + 1) N (fillS (fun _ => 0) 0) := by unfold Ub; rw [← hw5, made_uar, ← z4]; exact (heap_alloc_new _ _).trans (by congr 1)
      have N5 : Hid (w5.heap[D]? = some (.cells #[.int .i64 (N : Int), .slice (some ⟨g, 0, none⟩) m m] 61 (0, 0))) := (b5.block D (by omega)).trans N4
      have R5 : Hid (w5.heap[B + 1]? = some (.cells #[.int .i64 0, .slice none 0 0] 30 (0, 0))) := (b5.block (B + 1) (by omega)).trans RX.out
      have B5 : Hid (Below B W w5) := BX.out.trans (b5.mono (by omega))
      have e50 : w5.cell? ⟨D, 0, none⟩ = some (.int .i64 (N : Int)) := by rw [cell_of_row w5 D 0 _ _ _ N5.out]; rfl
      have e51 : w5.cell? ⟨D, 1, none⟩ = some (.slice (some ⟨g, 0, none⟩) m m) := by rw [cell_of_row w5 D 1 _ _ _ N5.out]; rfl
      have HA := Lib.hid (iAt N m n1 n32 m128 S g w5 (U4.below b5 (by omega)) (fun i hi => (hS i hi).1) (fun i hi k hk => by
        have e := (hS i hi).2 k
        rw [hk] at e
        have mem := of_decide_eq_true e.symm
        obtain ⟨q, hq, e2⟩ := List.mem_iff_getElem.1 mem
        have bk := (HD.out.2.2.2 i (by omega)).1.2 q hq
        unfold okAt at bk
        rw [List.getD_eq_getElem?_getD, List.getElem?_eq_getElem hq] at bk
        simp only [Option.getD_some, e2] at bk
        omega) (TB.out.below B5.out hpos))
      have PS : Hid (∀ c, Rep N (atP S m) c → (∀ x, x < N → c (x * 2) < 4294967296) ∧ ptsL N (fillS (fun x => c (x * 2)) N) = setsL N m (inB xss)) := fun c hc => by
        refine ⟨fun x hx => (word_bits hm32 hc hx).1, ptsL_sets hm32 fun k hk i => ?_⟩
        unfold fillS
        rw [if_pos hk, (word_bits hm32 hc hk).2 i]
        by_cases h : i < m
        · rw [(hS i h).2 k]; rfl
        · rw [decide_eq_false h]; rfl
      have HU5 := Lib.hid U5
      rw [z4] at hmk
      rw [z5] at HA
      rw [hw5] at hmk
      clear hS U4 b5 U5 RX BX hk N4
      go_wp2_with fail
      try rw [hw5]
      clear hw5
      refine HA.out.mono ?_
      rintro e w6 ⟨g2, c, rfl, hg2, hW, hRep, b6⟩
      obtain ⟨CB, PT⟩ := PS.out c hRep
      obtain ⟨S2, hS2⟩ : ∃ S2 : Nat → Nat, S2 = fun x => c (x * 2) := ⟨_, rfl⟩
      have CB2 : Hid (∀ x, x < N → S2 x < 4294967296) := by rw [hS2]; exact CB
      have PT2 : Hid (ptsL N (fillS S2 N) = setsL N m (inB xss)) := by rw [hS2]; exact PT
      have U6 : Hid (Ub w6 (D + 1) N (fillS S2 0)) := (HU5.out.below b6 (by omega)).congr fun k hk => by unfold fillS; rw [if_neg (by omega), if_neg (by omega)]
      obtain ⟨K, hK⟩ : ∃ K : World → Prop, K = fun W2 => Wb W2 g2 (N * 2) c ∧ W2.heap[D]? = some (.cells #[.int .i64 (N : Int), .slice (some ⟨g, 0, none⟩) m m] 61 (0, 0)) ∧ W2.heap[B + 1]? = some (.cells #[.int .i64 0, .slice none 0 0] 30 (0, 0)) ∧ Below B W W2 ∧ D + 2 ≤ W2.heap.size := ⟨_, rfl⟩
      have K6 : Hid (K w6) := by rw [hK]; exact ⟨hW, (b6.block D (by omega)).trans N5.out, (b6.block (B + 1) (by omega)).trans R5.out, B5.out.trans (b6.mono (by omega)), by have := b6.size; omega⟩
      have KN : Hid (∀ (W1 W2 : World), Below W1.heap.size W1 W2 → Hid (K W1) → Hid (K W2)) := fun W1 W2 bb h => by
        rw [hK] at h ⊢
        have q := h.out.2.2.2.2
        exact ⟨h.out.1.below bb h.out.1.lt, (bb.block D (by omega)).trans h.out.2.1, (bb.block (B + 1) (by omega)).trans h.out.2.2.1, h.out.2.2.2.1.trans (bb.mono (by have := h.out.2.2.2.1.size; have := HB.out; omega)), Nat.le_trans q bb.size⟩
      have KP : Hid (∀ (W1 : World) (x : Nat) (v : Value), Hid (K W1) → Hid (K (W1.setCell ⟨D + 1, x, none⟩ v))) := fun W1 x v h => by
        rw [hK] at h ⊢
        have hz : (W1.setCell ⟨D + 1, x, none⟩ v).heap.size = W1.heap.size := by simp [World.setCell]
        exact ⟨(Below.heap_setCell W1 ⟨D + 1, x, none⟩ v g2 (show g2 ≠ D + 1 by omega)).trans h.out.1, (Below.heap_setCell W1 ⟨D + 1, x, none⟩ v D (show D ≠ D + 1 by omega)).trans h.out.2.1, (Below.heap_setCell W1 ⟨D + 1, x, none⟩ v (B + 1) (show B + 1 ≠ D + 1 by omega)).trans h.out.2.2.1, h.out.2.2.2.1.setCell (p := ⟨D + 1, x, none⟩) (show B ≤ D + 1 by omega) v, by rw [hz]; exact h.out.2.2.2.2⟩
      have KC : Hid (∀ W1, Hid (K W1) → W1.cell? ⟨D, 0, none⟩ = some (.int .i64 (N : Int)) ∧ W1.cell? ⟨D, 1, none⟩ = some (.slice (some ⟨g, 0, none⟩) m m)) := fun W1 h => by
        rw [hK] at h
        exact ⟨by rw [cell_of_row W1 D 0 _ _ _ h.out.2.1]; rfl, by rw [cell_of_row W1 D 1 _ _ _ h.out.2.1]; rfl⟩
      have KO : Hid (∀ W1, Hid (K W1) → W1.heap[B + 1]? = some (.cells #[.int .i64 0, .slice none 0 0] 30 (0, 0)) ∧ Below B W W1 ∧ D + 2 ≤ W1.heap.size) := fun W1 h => by rw [hK] at h; exact h.out.2.2
      have KW : Hid (∀ W1 x, Hid (K W1) → x < N → W1.cell? ⟨g2, x * 2, none⟩ = some (.int .u64 (S2 x : Nat)) ∧ ∃ y : Nat, W1.cell? ⟨g2, x * 2 + 1, none⟩ = some (.int .u64 (y : Nat))) := fun W1 x h hx => by
        rw [hK] at h; rw [hS2]; exact ⟨h.out.1.cell _ (by omega), _, h.out.1.cell _ (by omega)⟩
      clear hW hRep b6 hK hS2 CB PT PS e0 e1 e50 e51 hmk N5 R5 B5 HA HU5 hg2
      have V0 := Lib.hid V0
      go_wp2
      go_loopw [34] (fun i wr => ∃ x : Nat, x ≤ N ∧ i = .int .i64 x ∧ Hid (Ub wr (D + 1) N (fillS S2 x)) ∧ Hid (K wr)) (fun i _ => N - (intOf i).toNat)
      case atStart => exact ⟨0, by omega, rfl, U6, K6⟩
      case round =>
        obtain ⟨x, hx, rfl, hU, hKw⟩ := hrel
        by_cases cx : x < N
        · have k1 : decide (x < N) = true := by simpa using cx
          have k1' : decide ((x : Int) < (N : Int)) = true := decide_eq_true (by omega)
          have wx := IntWalk.i64_in ((x : Int) + 1) (by omega)
          have x0 : (0 : Int) ≤ (x : Int) := by omega
          have x1 : (x : Int) < (N : Int) := by omega
          obtain ⟨m1, y, m2⟩ := KW.out wr x hKw cx
          have CX := CB2.out x cx
          have FS : Hid (∀ W2, Ub W2 (D + 1) N (fillS S2 x) → Ub (W2.setCell ⟨D + 1, x, none⟩ (.int .u32 (S2 x : Nat))) (D + 1) N (fillS S2 (x + 1))) := fun W2 h => fillS_succ h cx
          obtain ⟨s, hs⟩ : ∃ s, S2 x = s := ⟨_, rfl⟩
          rw [hs] at m1 CX FS
          have ws : IntKind.u32.wrap (s : Int) = (s : Int) := by simp [IntKind.wrap, IntKind.bits, IntKind.signed]; omega
          obtain ⟨I, hI⟩ : ∃ I, wr.heap.size = I := ⟨_, rfl⟩
          have hlt := hU.out.lt
          rw [hI] at hlt
          have b6 : Below I wr (wr.alloc (.cells #[.int .u64 (s : Nat), .int .u64 (y : Nat)] 80)) := (Below.refl _ _).alloc (Nat.le_of_eq hI.symm) _
          have U7 := hU.out.below b6 hlt
          have K7 := KN.out _ _ (by rw [hI]; exact b6) hKw
          have r0 := U7.cell x cx
          have r1 := U7.frozen x
          have i0 : (wr.alloc (.cells #[.int .u64 (s : Nat), .int .u64 (y : Nat)] 80)).cell? ⟨I, 0, none⟩ = some (.int .u64 (s : Nat)) := by rw [← hI]; simp
          obtain ⟨w7, hw7⟩ : ∃ w7, wr.alloc (.cells #[.int .u64 (s : Nat), .int .u64 (y : Nat)] 80) = w7 := ⟨_, rfl⟩
          rw [hw7] at U7 K7 r0 r1 i0
          have U8 := FS.out w7 U7
          have K8 := KP.out w7 x (.int .u32 (s : Nat)) K7
          obtain ⟨w8, hw8⟩ : ∃ w8, w7.setCell ⟨D + 1, x, none⟩ (.int .u32 (s : Nat)) = w8 := ⟨_, rfl⟩
          rw [hw8] at U8 K8
          have U8 := Lib.hid U8
          clear U7 K7 b6 hU hKw hs
          go_upto_region 10 with fail
          try rw [hw7]
          clear hw7
          go_wp2
          try rw [hw8]
          go_roundw
          case rel => exact ⟨x + 1, by omega, by go_num, U8, K8⟩
          case measure => simp [intOf]; omega
        · have k1 : decide (x < N) = false := by simpa using cx
          have k1' : decide ((x : Int) < (N : Int)) = false := decide_eq_false (by omega)
          obtain rfl : x = N := by omega
          obtain ⟨e0, e1⟩ := KC.out wr hKw
          obtain ⟨r1, B1, sD⟩ := KO.out wr hKw
          have hSf : ∀ i, i < x → fillS S2 x i < 4294967296 := fun i hi => by unfold fillS; rw [if_pos hi]; exact CB2.out i hi
          have DX := dx_des (m : Int) hSf
          rw [PT2.out] at DX
          have HDS := ides (m : Int) x (D + 1) (fillS S2 x) (by omega) wr hU.out hSf (by omega) (TB.out.below B1 hpos)
          rw [DX.1, DX.2.1, DX.2.2] at HDS
          obtain ⟨qn, hqn⟩ : ∃ q, dxN (m : Int) (setsL x m (inB xss)) = q := ⟨_, rfl⟩
          obtain ⟨qc, hqc⟩ : ∃ q, dxC (setsL x m (inB xss)) = q := ⟨_, rfl⟩
          obtain ⟨ql, hql⟩ : ∃ q, dxL (setsL x m (inB xss)) = q := ⟨_, rfl⟩
          rw [hqn, hqc, hql] at HDS V0
          have V := V0
          have HDS := Lib.hid HDS
          have r1 := Lib.hid r1
          have B1 := Lib.hid B1
          have zsz : Hid (D + 1 < wr.heap.size) := hU.out.lt
          clear DX hSf hqn hqc hql
          go_wp2_with fail
          refine HDS.out.mono ?_
          rintro e w9 ⟨z, rfl, hL, hO⟩
          have zz := zsz.out
          have RX : Hid (w9.heap[B + 1]? = some (.cells #[.int .i64 0, .slice none 0 0] 30 (0, 0))) := (hO.block (B + 1) (by omega) (by omega)).trans r1.out
          have BX : Hid (Below B W w9) := ⟨hO.os.trans B1.out.os, hO.tape.trans B1.out.tape, hO.output.trans B1.out.output, Nat.le_trans B1.out.size hO.size, fun k hk => (hO.block k (by omega) (by omega)).trans (B1.out.block k hk)⟩
          obtain ⟨ay, ly, cy, rfl⟩ : ∃ a l c, z = .slice a l c := by obtain ⟨a, c, e, -⟩ := hL.at.shape; exact ⟨a, _, c, e⟩
          have LX := Lib.hid hL
          have sW : W.heap.size ≤ wr.heap.size := B1.out.size
          clear hL hO e0 e1
          have f0 := frozen_of_row w9 (B + 1) 0 _ _ RX.out
          have f1 := frozen_of_row w9 (B + 1) 1 _ _ RX.out
          have d0 : w9.cell? ⟨B + 1, 0, none⟩ = some (.int .i64 0) := by rw [cell_of_row w9 (B + 1) 0 _ _ _ RX.out]; rfl
          have d1 : w9.cell? ⟨B + 1, 1, none⟩ = some (.slice none 0 0) := by rw [cell_of_row w9 (B + 1) 1 _ _ _ RX.out]; rfl
          go_wp2
          have R9 := set2_row w9 (B + 1) _ _ (.int .i64 qn) (.slice ay ly cy) _ RX.out
          have B9 := (BX.out.setCell (p := ⟨B + 1, 0, none⟩) (by simp only; omega) (.int .i64 qn)).setCell (p := ⟨B + 1, 1, none⟩) (by simp only; omega) (.slice ay ly cy)
          have L9 := RowsL.off2 LX.out (show B + 1 < wr.heap.size by omega) (.int .i64 qn) (.slice ay ly cy)
          have hld := run_loadVar_row (P := Tryd.prog) _ _ 30 30 #[.int .i64 qn, .slice ay ly cy] (0, 0) _ R9 Tryd.underlying30 rfl Tryd.infoDes
          refine bodyPost_ret (v := .tuple #[.agg #[.int .i64 qn, .slice ay ly cy], .int .i64 qc]) ?_ rfl ⟨_, by rw [V.out.1, V.out.2.2], ?_, by rw [HB.out]; exact B9⟩
          · rw [results_cell_tmp rfl]
            simp [asAddr, Result.andThen, hld]
          · rw [V.out.2.1]; exact L9.mono (by omega) (by simp [World.setCell]) (Nat.le_refl _)
    · have V := Lib.hid (RNG.out.2 hk)
      by_cases hk1 : m = 0
      · have t1 : decide ((m : Int) < 1) = true := decide_eq_true (by omega)
        have t3 : decide (m < 1) = true := decide_eq_true (by omega)
        clear hk
        have f0 := frozen_of_row w4 (B + 1) 0 _ _ RX.out
        have f1 := frozen_of_row w4 (B + 1) 1 _ _ RX.out
        have d0 : w4.cell? ⟨B + 1, 0, none⟩ = some (.int .i64 0) := by rw [cell_of_row w4 (B + 1) 0 _ _ _ RX.out]; rfl
        have d1 : w4.cell? ⟨B + 1, 1, none⟩ = some (.slice none 0 0) := by rw [cell_of_row w4 (B + 1) 1 _ _ _ RX.out]; rfl
        go_wp2
        have R9 := set2_row w4 (B + 1) _ _ (.int .i64 0) (.slice none 0 0) _ RX.out
        have B9 := (BX.out.setCell (p := ⟨B + 1, 0, none⟩) (by simp only; omega) (.int .i64 0)).setCell (p := ⟨B + 1, 1, none⟩) (by simp only; omega) (.slice none 0 0)
        have hld := run_loadVar_row (P := Tryd.prog) _ _ 30 30 #[.int .i64 0, .slice none 0 0] (0, 0) _ R9 Tryd.underlying30 rfl Tryd.infoDes
        refine bodyPost_ret (v := .tuple #[.agg #[.int .i64 0, .slice none 0 0], .int .i64 2]) ?_ rfl ⟨_, by rw [V.out.1, V.out.2.2], ?_, by rw [HB.out]; exact B9⟩
        · rw [results_cell_tmp rfl]
          simp [asAddr, Result.andThen, hld]
        · rw [V.out.2.1]; exact RowsL.nil _ _ _ (Nat.le_refl _)
      · have t1 : decide ((m : Int) < 1) = false := decide_eq_false (by omega)
        have t3 : decide (m < 1) = false := decide_eq_false (by omega)
        have t4 : decide ((m : Int) > 32) = true := decide_eq_true (by omega)
        have t5 : decide ((32 : Int) < (m : Int)) = true := decide_eq_true (by omega)
        have t6 : decide (32 < m) = true := decide_eq_true (by omega)
        clear hk hk1
        have f0 := frozen_of_row w4 (B + 1) 0 _ _ RX.out
        have f1 := frozen_of_row w4 (B + 1) 1 _ _ RX.out
        have d0 : w4.cell? ⟨B + 1, 0, none⟩ = some (.int .i64 0) := by rw [cell_of_row w4 (B + 1) 0 _ _ _ RX.out]; rfl
        have d1 : w4.cell? ⟨B + 1, 1, none⟩ = some (.slice none 0 0) := by rw [cell_of_row w4 (B + 1) 1 _ _ _ RX.out]; rfl
        go_wp2
        have R9 := set2_row w4 (B + 1) _ _ (.int .i64 0) (.slice none 0 0) _ RX.out
        have B9 := (BX.out.setCell (p := ⟨B + 1, 0, none⟩) (by simp only; omega) (.int .i64 0)).setCell (p := ⟨B + 1, 1, none⟩) (by simp only; omega) (.slice none 0 0)
        have hld := run_loadVar_row (P := Tryd.prog) _ _ 30 30 #[.int .i64 0, .slice none 0 0] (0, 0) _ R9 Tryd.underlying30 rfl Tryd.infoDes
        refine bodyPost_ret (v := .tuple #[.agg #[.int .i64 0, .slice none 0 0], .int .i64 2]) ?_ rfl ⟨_, by rw [V.out.1, V.out.2.2], ?_, by rw [HB.out]; exact B9⟩
        · rw [results_cell_tmp rfl]
          simp [asAddr, Result.andThen, hld]
        · rw [V.out.2.1]; exact RowsL.nil _ _ _ (Nat.le_refl _)
end Go.Proofs.YtpckbhelnoeifaaDoor
