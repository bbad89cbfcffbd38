/- ComplementDesign: the program's. -/
import Derived.Test.YtpckbhelnoeifaaDoorCom
namespace Go.Proofs.YtpckbhelnoeifaaDoor
open Go.RowKit Go.Shelf
set_option linter.unusedVariables false
set_option linter.unusedSimpArgs false

theorem ibelow32 (n : Nat) (hn : n ≤ 32) (w : World) : Calls Tryd.prog 55 #[.int .i64 n] w fun e w' => e = .returned (.int .u32 ((2 ^ n - 1 : Nat) : Int)) ∧ w' = w := by
  have key : ∀ k : Nat, k < 33 → k = 0 ∨ k = 1 ∨ k = 2 ∨ k = 3 ∨ k = 4 ∨ k = 5 ∨ k = 6 ∨ k = 7 ∨ k = 8 ∨ k = 9 ∨ k = 10 ∨ k = 11 ∨ k = 12 ∨ k = 13 ∨ k = 14 ∨ k = 15 ∨ k = 16 ∨ k = 17 ∨ k = 18 ∨ k = 19 ∨ k = 20 ∨ k = 21 ∨ k = 22 ∨ k = 23 ∨ k = 24 ∨ k = 25 ∨ k = 26 ∨ k = 27 ∨ k = 28 ∨ k = 29 ∨ k = 30 ∨ k = 31 ∨ k = 32 := by omega
  rcases key n (by omega) with rfl | rfl | rfl | rfl | rfl | rfl | rfl | rfl | rfl | rfl | rfl | rfl | rfl | rfl | rfl | rfl | rfl | rfl | rfl | rfl | rfl | rfl | rfl | rfl | rfl | rfl | rfl | rfl | rfl | rfl | rfl | rfl | rfl <;>
  · go_enter Tryd.func55, Tryd.ntmps55
    go_wp2
    go_ret
    exact ⟨rfl, rfl⟩
theorem below_bits (N i : Nat) : (2 ^ N - 1).testBit i = decide (i < N) := by rw [Nat.testBit_two_pow_sub_one]
/-- The first x sets are turned. -/
def mixS (T S : Nat → Nat) (x : Nat) : Nat → Nat := fun k => if k < x then T k else S k
theorem mixS_succ {w : World} {g N x z : Nat} {T S : Nat → Nat} (h : Ub w g N (mixS T S x)) (hz : z = T x) : Ub (w.setCell ⟨g, x, none⟩ (.int .u32 (z : Nat))) g N (mixS T S (x + 1)) := by
  subst hz
  refine (h.set x (T x)).congr fun k hk => ?_
  unfold updN mixS
  by_cases e : k = x
  · rw [if_pos e, if_pos (by omega), e]
  · rw [if_neg e]
    by_cases l : k < x
    · rw [if_pos l, if_pos (by omega)]
    · rw [if_neg l, if_neg (by omega)]
/-- The complement's bits, as a number. -/
noncomputable def coN (N : Nat) (s : Nat) : Nat := (2 ^ N - 1) &&& (4294967295 - s)
theorem coN_bits {N s z : Nat} (hN : N ≤ 32) (hz : OpOut (fun a b => a && !b) (2 ^ N - 1) s z) (hs : s < 4294967296) : z = coN N s := by
  apply Nat.eq_of_testBit_eq
  intro i
  unfold coN
  have hc : (2 ^ 32 - (s + 1)).testBit i = (decide (i < 32) && !s.testBit i) := Nat.testBit_two_pow_sub_succ (by omega) i
  rw [hz.2 i, Nat.testBit_and, show 4294967295 - s = 2 ^ 32 - (s + 1) by omega, hc, below_bits]
  by_cases c : i < N
  · rw [decide_eq_true c, decide_eq_true (show i < 32 by omega)]; simp
  · rw [decide_eq_false c]; simp
theorem coN_lt {N s : Nat} (hN : N ≤ 32) : coN N s < 4294967296 := by
  unfold coN
  refine Nat.lt_of_le_of_lt Nat.and_le_left ?_
  have : 2 ^ N ≤ 2 ^ 32 := Nat.pow_le_pow_right (by omega) hN
  have : 0 < 2 ^ N := Nat.two_pow_pos N
  omega
theorem coN_test {N s i : Nat} (hN : N ≤ 32) (hs : s < 4294967296) : (coN N s).testBit i = (decide (i < N) && !s.testBit i) := by
  unfold coN
  have hc : (2 ^ 32 - (s + 1)).testBit i = (decide (i < 32) && !s.testBit i) := Nat.testBit_two_pow_sub_succ (by omega) i
  rw [Nat.testBit_and, show 4294967295 - s = 2 ^ 32 - (s + 1) by omega, hc, below_bits]
  by_cases c : i < N
  · rw [decide_eq_true c, decide_eq_true (show i < 32 by omega)]; simp
  · rw [decide_eq_false c]; simp
theorem below_lt {N : Nat} (hN : N ≤ 32) : 2 ^ N - 1 < 4294967296 := by
  have : 2 ^ N ≤ 2 ^ 32 := Nat.pow_le_pow_right (by omega) hN
  omega
set_option maxRecDepth 100000 in
set_option maxHeartbeats 4000000 in
theorem iComplementDesign (n : Int) (xss : List (List Int)) (hx : xss.length ≤ 1048576) (W : World) (v : Value) (hv : RowsAt W v xss) (ht : Tab W) :
    Calls Tryd.prog 27 #[.agg #[.int .i64 n, v]] W fun e w' => ∃ z, e = .returned (.tuple #[.agg #[.int .i64 (ComplementDesign_N n xss), z], .int .i64 (ComplementDesign_C n xss)]) ∧ RowsL w' W.heap.size w'.heap.size z (ComplementDesign_L n xss) ∧ Below W.heap.size W w' := by
  obtain ⟨a, cap, rfl, K⟩ := hv.rowsIn
  obtain ⟨m, hm⟩ : ∃ m, xss.length = m := ⟨_, rfl⟩
  rw [hm] at hv K ⊢
  obtain ⟨B, hB⟩ : ∃ B, W.heap.size = B := ⟨_, rfl⟩
  rw [hB] at K
  obtain ⟨w1, hw1⟩ : ∃ w1, W.alloc (.cells #[.int .i64 n, .slice a m cap] 30) = w1 := ⟨_, rfl⟩
  have z1 : w1.heap.size = B + 1 := by rw [← hw1, World.size_alloc, hB]
  have b1 : Below B W w1 := by rw [← hw1]; exact (Below.refl _ _).alloc (by omega) _
  have A1 : w1.heap[B]? = some (.cells #[.int .i64 n, .slice a m cap] 30 (0, 0)) := by rw [← hw1, ← hB]; exact heap_alloc_new _ _
  obtain ⟨w2, hw2⟩ : ∃ w2, w1.alloc (.cells #[.int .i64 0, .slice none 0 0] 30) = w2 := ⟨_, rfl⟩
  have z2 : w2.heap.size = B + 2 := by rw [← hw2, World.size_alloc, z1]
  have b12 : Below (B + 1) w1 w2 := by rw [← hw2]; exact (Below.refl _ _).alloc (Nat.le_of_eq z1.symm) _
  have b2 : Below B W w2 := b1.trans (b12.mono (by omega))
  have A2 : w2.heap[B]? = some (.cells #[.int .i64 n, .slice a m cap] 30 (0, 0)) := (b12.block B (by omega)).trans A1
  have R2 : w2.heap[B + 1]? = some (.cells #[.int .i64 0, .slice none 0 0] 30 (0, 0)) := by rw [← hw2, ← z1]; exact heap_alloc_new _ _
  have c0 : w2.cell? ⟨B, 0, none⟩ = some (.int .i64 n) := by rw [cell_of_row w2 B 0 _ _ _ A2]; rfl
  have c1 : w2.cell? ⟨B, 1, none⟩ = some (.slice a m cap) := by rw [cell_of_row w2 B 1 _ _ _ A2]; rfl
  have hpos : 0 < B := by rw [← hB]; exact ht.pos
  have HO := Lib.hid (iInc n xss hx w2 _ (hv.below b2 (by omega)) (ht.below b2 hpos))
  rw [z2] at HO
  have TB := Lib.hid ht
  have HB := Lib.hid hB
  have B2 := Lib.hid b2
  have HR := Lib.hid R2
  cases hp : desB n xss with
  | false =>
    have V := Lib.hid (com_no hp)
    rw [hp] at HO
    clear hp hv A1 A2 b1 b12 b2 K R2 ht
    go_enter Tryd.func27, Tryd.ntmps27
    go_wp2_with fail
    try rw [hw1]
    try rw [hw2]
    refine HO.out.mono ?_
    rintro e w3 ⟨z, rfl, ⟨hz, -⟩, b3⟩
    obtain rfl := hz rfl
    have s3 : B + 2 ≤ w3.heap.size := by have := b3.size; omega
    have bb : Below (B + 2) w3 (w3.alloc (.cells #[.int .i64 0, .slice none 0 0] 61)) := (Below.refl _ _).alloc s3 _
    have RX : Hid ((w3.alloc (.cells #[.int .i64 0, .slice none 0 0] 61)).heap[B + 1]? = some (.cells #[.int .i64 0, .slice none 0 0] 30 (0, 0))) := (bb.block (B + 1) (by omega)).trans ((b3.block (B + 1) (by omega)).trans HR.out)
    have BX : Hid (Below B W (w3.alloc (.cells #[.int .i64 0, .slice none 0 0] 61))) := (B2.out.trans (b3.mono (by omega))).trans (bb.mono (by omega))
    obtain ⟨w4, hw4⟩ : ∃ W, w3.alloc (.cells #[.int .i64 0, .slice none 0 0] 61) = W := ⟨_, rfl⟩
    rw [hw4] at RX BX
    have Hw4 := Lib.hid hw4
    clear b3 bb c0 c1 hw4
    go_upto_region 2 with fail
    rw [Hw4.out]
    have f0 := frozen_of_row w4 (B + 1) 0 _ _ RX.out
    have f1 := frozen_of_row w4 (B + 1) 1 _ _ RX.out
    have d0 : w4.cell? ⟨B + 1, 0, none⟩ = some (.int .i64 0) := by rw [cell_of_row w4 (B + 1) 0 _ _ _ RX.out]; rfl
    have d1 : w4.cell? ⟨B + 1, 1, none⟩ = some (.slice none 0 0) := by rw [cell_of_row w4 (B + 1) 1 _ _ _ RX.out]; rfl
    go_wp2
    have R9 := set2_row w4 (B + 1) _ _ (.int .i64 0) (.slice none 0 0) _ RX.out
    have B9 := (BX.out.setCell (p := ⟨B + 1, 0, none⟩) (by simp only; omega) (.int .i64 0)).setCell (p := ⟨B + 1, 1, none⟩) (by simp only; omega) (.slice none 0 0)
    have hld := run_loadVar_row (P := Tryd.prog) _ _ 30 30 #[.int .i64 0, .slice none 0 0] (0, 0) _ R9 Tryd.underlying30 rfl Tryd.infoDes
    refine bodyPost_ret (v := .tuple #[.agg #[.int .i64 0, .slice none 0 0], .int .i64 1]) ?_ rfl ⟨_, by rw [V.out.1, V.out.2.2], ?_, by rw [HB.out]; exact B9⟩
    · rw [results_cell_tmp rfl]
      simp [asAddr, Result.andThen, hld]
    · rw [V.out.2.1]; exact RowsL.nil _ _ _ (Nat.le_refl _)
  | true =>
    have D := of_desB hp
    have m128 : m ≤ 128 := by have := D.2.2.1; omega
    obtain ⟨N, rfl⟩ : ∃ N : Nat, n = N := ⟨n.toNat, by have := D.1; omega⟩
    have n32 : N ≤ 32 := by have := D.2.1; omega
    have n1 : 1 ≤ N := by have := D.1; omega
    rw [hp] at HO
    have V0 := Lib.hid (com_yes hp)
    rw [hm, Int.toNat_natCast] at V0
    clear hp hv A1 A2 b1 b12 b2 K R2 ht D
    go_enter Tryd.func27, Tryd.ntmps27
    go_wp2_with fail
    try rw [hw1]
    try rw [hw2]
    refine HO.out.mono ?_
    rintro e w3 ⟨z, rfl, ⟨-, hz⟩, b3⟩
    obtain ⟨g, S, rfl, hg, hU, hS⟩ := hz rfl
    rw [hm] at hU hS ⊢
    have s3 : B + 2 ≤ w3.heap.size := by have := b3.size; omega
    obtain ⟨D, hD⟩ : ∃ D, w3.heap.size = D := ⟨_, rfl⟩
    obtain ⟨w4, hw4⟩ : ∃ W, w3.alloc (.cells #[.int .i64 (N : Int), .slice (some ⟨g, 0, none⟩) m m] 61) = W := ⟨_, rfl⟩
    have b4 : Below D w3 w4 := by rw [← hw4, ← hD]; exact (Below.refl _ _).alloc (Nat.le_refl _) _
    have z4 : w4.heap.size = D + 1 := by rw [← hw4, World.size_alloc, hD]
    have N4 : w4.heap[D]? = some (.cells #[.int .i64 (N : Int), .slice (some ⟨g, 0, none⟩) m m] 61 (0, 0)) := by rw [← hw4, ← hD]; exact heap_alloc_new _ _
    rw [hD] at s3
    have hgD : g < D := by rw [← hD]; exact hU.lt
    have R4 : w4.heap[B + 1]? = some (.cells #[.int .i64 0, .slice none 0 0] 30 (0, 0)) := (b4.block (B + 1) (by omega)).trans ((b3.block (B + 1) (by omega)).trans HR.out)
    have B4 : Below B W w4 := (B2.out.trans (b3.mono (by omega))).trans (b4.mono (by omega))
    obtain ⟨T, hT⟩ : ∃ T : Nat → Nat, T = fun k => coN N (S k) := ⟨_, rfl⟩
    have U4 : Hid (Ub w4 g m (mixS T S 0)) := (hU.below b4 hgD).congr fun k hk => by unfold mixS; rw [if_neg (by omega)]
    have SB : Hid (∀ i, i < m → S i < 4294967296) := fun i hi => (hS i hi).1
    have TZ : Hid (∀ i z, i < m → OpOut (fun a b => a && !b) (2 ^ N - 1) (S i) z → z = T i) := fun i z hi h => by rw [hT]; exact coN_bits n32 h (hS i hi).1
    have TL : Hid (∀ i, mixS T S m i = T i ∨ m ≤ i) := fun i => by unfold mixS; by_cases h : i < m; exact .inl (if_pos h); exact .inr (by omega)
    have PT : Hid (ptsL m (mixS T S m) = setsL m N (coB xss) ∧ ∀ i, i < m → mixS T S m i < 4294967296) := by
      have e : ∀ k, k < m → mixS T S m k = coN N (S k) := fun k hk => by unfold mixS; rw [if_pos hk, hT]
      refine ⟨ptsL_sets n32 fun k hk i => ?_, fun i hi => by rw [e i hi]; exact coN_lt n32⟩
      rw [e k hk, coN_test n32 (hS k hk).1, (hS k hk).2 i]; rfl
    obtain ⟨K, hK⟩ : ∃ K : World → Prop, K = fun W2 => W2.heap[D]? = some (.cells #[.int .i64 (N : Int), .slice (some ⟨g, 0, none⟩) m m] 61 (0, 0)) ∧ W2.heap[B + 1]? = some (.cells #[.int .i64 0, .slice none 0 0] 30 (0, 0)) ∧ Below B W W2 := ⟨_, rfl⟩
    have K4 : Hid (K w4) := by rw [hK]; exact ⟨N4, R4, B4⟩
    have KP : Hid (∀ (W1 : World) (x : Nat) (v : Value), Hid (K W1) → Hid (K (W1.setCell ⟨g, x, none⟩ v))) := fun W1 x v h => by
      rw [hK] at h ⊢
      exact ⟨(Below.heap_setCell W1 ⟨g, x, none⟩ v D (show D ≠ g by omega)).trans h.out.1, (Below.heap_setCell W1 ⟨g, x, none⟩ v (B + 1) (show B + 1 ≠ g by omega)).trans h.out.2.1, h.out.2.2.setCell (p := ⟨g, x, none⟩) (show B ≤ g by omega) v⟩
    have KD : Hid (∀ W1, Hid (K W1) → Hid (K W1.drew)) := fun W1 h => by
      rw [hK] at h ⊢
      exact ⟨h.out.1, h.out.2.1, h.out.2.2.drew⟩
    have KC : Hid (∀ W1, Hid (K W1) → W1.cell? ⟨D, 0, none⟩ = some (.int .i64 (N : Int)) ∧ W1.cell? ⟨D, 1, none⟩ = some (.slice (some ⟨g, 0, none⟩) m m)) := fun W1 h => by
      rw [hK] at h
      exact ⟨by rw [cell_of_row W1 D 0 _ _ _ h.out.1]; rfl, by rw [cell_of_row W1 D 1 _ _ _ h.out.1]; rfl⟩
    have KO : Hid (∀ W1, Hid (K W1) → W1.heap[B + 1]? = some (.cells #[.int .i64 0, .slice none 0 0] 30 (0, 0)) ∧ Below B W W1) := fun W1 h => by rw [hK] at h; exact h.out.2
    obtain ⟨e0, e1⟩ := KC.out w4 K4
    have Hw4 := Lib.hid hw4
    clear b3 b4 c0 c1 hw1 hw2 hw4 hU hS N4 R4 B4 hK hT
    go_upto_region 2 with fail
    rw [Hw4.out]
    clear Hw4
    go_wp2
    go_loopw [19] (fun i wr => ∃ x : Nat, x ≤ m ∧ i = .int .i64 x ∧ Hid (Ub wr g m (mixS T S x)) ∧ Hid (K wr)) (fun i _ => m - (intOf i).toNat)
    case atStart => exact ⟨0, by omega, rfl, U4, K4⟩
    case round =>
      clear e0 e1
      obtain ⟨x, hx, rfl, hU, hKw⟩ := hrel
      obtain ⟨e0, e1⟩ := KC.out wr hKw
      by_cases cx : x < m
      · have k1 : decide (x < m) = true := by simpa using cx
        have k1' : decide ((x : Int) < (m : Int)) = true := decide_eq_true (by omega)
        have wx := IntWalk.i64_in ((x : Int) + 1) (by omega)
        have x0 : (0 : Int) ≤ (x : Int) := by omega
        have x1 : (x : Int) < (m : Int) := by omega
        have hUd : Hid (Ub wr.drew g m (mixS T S x)) := hU.out
        have hKd : Hid (K wr.drew) := KD.out wr hKw
        have m1 := hUd.out.cell x cx
        have r1 := hUd.out.frozen x
        rw [show mixS T S x x = S x by unfold mixS; rw [if_neg (by omega)]] at m1
        have HBL := Lib.hid (fun W' => ibelow32 N n32 W')
        have HMN := Lib.hid (fun W' => iminus (2 ^ N - 1) (S x) W' (below_lt n32) (SB.out x cx))
        have TX := Lib.hid (fun z h => TZ.out x z cx h)
        have FS : Hid (∀ z, z = T x → Ub (wr.drew.setCell ⟨g, x, none⟩ (.int .u32 (z : Nat))) g m (mixS T S (x + 1))) := fun z h => mixS_succ hUd.out h
        have KS := Lib.hid (fun v => KP.out wr.drew x v hKd)
        have m0 : wr.cell? ⟨g, x, none⟩ = some (.int .u32 (S x : Nat)) := m1
        obtain ⟨s, hs⟩ : ∃ s, S x = s := ⟨_, rfl⟩
        rw [hs] at m1 m0 HMN TX
        obtain ⟨q, hq⟩ : ∃ q, 2 ^ N - 1 = q := ⟨_, rfl⟩
        rw [hq] at HBL HMN TX
        clear hs hq hU
        go_upto_region 7 with fail
        clear m0
        go_region_held3 (fun w' => w'.cell? ⟨D, 0, none⟩ = some (.int .i64 (N : Int)) ∧ w'.cell? ⟨D, 1, none⟩ = some (.slice (some ⟨g, 0, none⟩) m m)) (first | exact KC.out _ (by assumption))
          (first | (go_at_call 55; refine (HBL.out _).mono ?_; rintro e w5 ⟨rfl, rfl⟩) | (refine (HMN.out _).mono ?_; rintro e w5 ⟨z, rfl, hz, rfl⟩; have U8 := Lib.hid (FS.out z (TX.out z hz)); have K8 := KS.out (.int .u32 (z : Nat))))
        go_wp2
        go_roundw
        case rel => exact ⟨x + 1, by omega, by go_num, U8, K8⟩
        case measure => simp [intOf]; omega
      · have k1 : decide (x < m) = false := by simpa using cx
        have k1' : decide ((x : Int) < (m : Int)) = false := decide_eq_false (by omega)
        obtain rfl : x = m := by omega
        obtain ⟨r1, B1⟩ := KO.out wr hKw
        have DX := dx_des (N : Int) PT.out.2
        rw [PT.out.1] at DX
        have HDS := ides (N : Int) x g (mixS T S x) (by omega) wr hU.out PT.out.2 (by omega) (TB.out.below B1 hpos)
        rw [DX.1, DX.2.1, DX.2.2] at HDS
        obtain ⟨qn, hqn⟩ : ∃ q, dxN (N : Int) (setsL x N (coB xss)) = q := ⟨_, rfl⟩
        obtain ⟨qc, hqc⟩ : ∃ q, dxC (setsL x N (coB xss)) = q := ⟨_, rfl⟩
        obtain ⟨ql, hql⟩ : ∃ q, dxL (setsL x N (coB xss)) = q := ⟨_, rfl⟩
        rw [hqn, hqc, hql] at HDS V0
        have V := V0
        have HDS := Lib.hid HDS
        have zsz : Hid (B + 1 < wr.heap.size) := (Array.getElem?_eq_some_iff.1 r1).1
        have r1 := Lib.hid r1
        have B1 := Lib.hid B1
        clear DX hqn hqc hql
        go_wp2_with fail
        refine HDS.out.mono ?_
        rintro e w9 ⟨z, rfl, hL, hO⟩
        have zz := zsz.out
        have RX : Hid (w9.heap[B + 1]? = some (.cells #[.int .i64 0, .slice none 0 0] 30 (0, 0))) := (hO.block (B + 1) (by omega) (by omega)).trans r1.out
        have BX : Hid (Below B W w9) := ⟨hO.os.trans B1.out.os, hO.tape.trans B1.out.tape, hO.output.trans B1.out.output, Nat.le_trans B1.out.size hO.size, fun k hk => (hO.block k (by omega) (by omega)).trans (B1.out.block k hk)⟩
        obtain ⟨ay, ly, cy, rfl⟩ : ∃ a l c, z = .slice a l c := by obtain ⟨a, c, e, -⟩ := hL.at.shape; exact ⟨a, _, c, e⟩
        have LX := Lib.hid hL
        have sW : W.heap.size ≤ wr.heap.size := B1.out.size
        clear hL hO e0 e1
        have f0 := frozen_of_row w9 (B + 1) 0 _ _ RX.out
        have f1 := frozen_of_row w9 (B + 1) 1 _ _ RX.out
        have d0 : w9.cell? ⟨B + 1, 0, none⟩ = some (.int .i64 0) := by rw [cell_of_row w9 (B + 1) 0 _ _ _ RX.out]; rfl
        have d1 : w9.cell? ⟨B + 1, 1, none⟩ = some (.slice none 0 0) := by rw [cell_of_row w9 (B + 1) 1 _ _ _ RX.out]; rfl
        go_wp2
        have R9 := set2_row w9 (B + 1) _ _ (.int .i64 qn) (.slice ay ly cy) _ RX.out
        have B9 := (BX.out.setCell (p := ⟨B + 1, 0, none⟩) (by simp only; omega) (.int .i64 qn)).setCell (p := ⟨B + 1, 1, none⟩) (by simp only; omega) (.slice ay ly cy)
        have L9 := RowsL.off2 LX.out (show B + 1 < wr.heap.size by omega) (.int .i64 qn) (.slice ay ly cy)
        have hld := run_loadVar_row (P := Tryd.prog) _ _ 30 30 #[.int .i64 qn, .slice ay ly cy] (0, 0) _ R9 Tryd.underlying30 rfl Tryd.infoDes
        refine bodyPost_ret (v := .tuple #[.agg #[.int .i64 qn, .slice ay ly cy], .int .i64 qc]) ?_ rfl ⟨_, by rw [V.out.1, V.out.2.2], ?_, by rw [HB.out]; exact B9⟩
        · rw [results_cell_tmp rfl]
          simp [asAddr, Result.andThen, hld]
        · rw [V.out.2.1]; exact L9.mono (by omega) (by simp [World.setCell]) (Nat.le_refl _)
end Go.Proofs.YtpckbhelnoeifaaDoor
