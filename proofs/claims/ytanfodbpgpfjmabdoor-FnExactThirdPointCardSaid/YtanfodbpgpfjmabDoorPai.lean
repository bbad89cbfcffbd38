/- The parameters of a design, by the program. -/
import Derived.Test.YtanfodbpgpfjmabDoorSzs
import Derived.Test.YtanfodbpgpfjmabDoorPrc
namespace Go.Proofs.YtanfodbpgpfjmabDoor
open Go.RowKit Go.Shelf
set_option linter.unusedVariables false
set_option linter.unusedSimpArgs false

def prm (a b c d e : Int) : Value := .agg #[.int .i64 a, .int .i64 b, .int .i64 c, .int .i64 d, .int .i64 e]
def sameL (xs : List Int) : Bool := xs.all (fun x => x == xs.getD 0 0)
/-- Balanced, of sizes Z and numbers of pairs P. -/
def parO (n m : Nat) (Z P : List Int) : Bool := decide (2 ≤ n) && (decide (0 < m) && (decide (2 ≤ Z.getD 0 0) && (sameL Z && sameL P)))
noncomputable def parV (n m : Nat) (Z P R : List Int) : Value := if parO n m Z P = true then prm n m (R.getD 0 0) (Z.getD 0 0) (P.getD 0 0) else prm 0 0 0 0 0
theorem Tryd.infoPrm : (Tryd.prog.info? 66).map (·.size) = some 5 := by kernel_rfl
theorem five (W : World) (g : Nat) (z0 z1 z2 z3 z4 a b c d e : Value) (T : TypeId) (h : W.heap[g]? = some (.cells #[z0, z1, z2, z3, z4] T (0, 0))) :
    (((((W.setCell ⟨g, 0, none⟩ a).setCell ⟨g, 1, none⟩ b).setCell ⟨g, 2, none⟩ c).setCell ⟨g, 3, none⟩ d).setCell ⟨g, 4, none⟩ e).heap[g]? = some (.cells #[a, b, c, d, e] T (0, 0)) ∧
    ∀ B w, B ≤ g → Below B w W → Below B w (((((W.setCell ⟨g, 0, none⟩ a).setCell ⟨g, 1, none⟩ b).setCell ⟨g, 2, none⟩ c).setCell ⟨g, 3, none⟩ d).setCell ⟨g, 4, none⟩ e) := by
  have h0 := heap_setCell_same W g 0 _ _ a h
  have h1 := heap_setCell_same _ g 1 _ _ b h0
  have h2 := heap_setCell_same _ g 2 _ _ c h1
  have h3 := heap_setCell_same _ g 3 _ _ d h2
  have h4 := heap_setCell_same _ g 4 _ _ e h3
  refine ⟨h4.trans rfl, fun B w hB hb => ?_⟩
  exact ((((hb.setCell (p := ⟨g, 0, none⟩) hB _).setCell (p := ⟨g, 1, none⟩) hB _).setCell (p := ⟨g, 2, none⟩) hB _).setCell (p := ⟨g, 3, none⟩) hB _).setCell (p := ⟨g, 4, none⟩) hB _
theorem cells5 (W : World) (g : Nat) (z0 z1 z2 z3 z4 : Value) (T : TypeId) (h : W.heap[g]? = some (.cells #[z0, z1, z2, z3, z4] T (0, 0))) :
    W.cell? ⟨g, 0, none⟩ = some z0 ∧ W.cell? ⟨g, 1, none⟩ = some z1 ∧ W.cell? ⟨g, 2, none⟩ = some z2 ∧ W.cell? ⟨g, 3, none⟩ = some z3 ∧ W.cell? ⟨g, 4, none⟩ = some z4 ∧
    W.frozen? ⟨g, 0, none⟩ = false ∧ W.frozen? ⟨g, 1, none⟩ = false ∧ W.frozen? ⟨g, 2, none⟩ = false ∧ W.frozen? ⟨g, 3, none⟩ = false ∧ W.frozen? ⟨g, 4, none⟩ = false :=
  ⟨by rw [cell_of_row W g 0 _ _ _ h]; rfl, by rw [cell_of_row W g 1 _ _ _ h]; rfl, by rw [cell_of_row W g 2 _ _ _ h]; rfl, by rw [cell_of_row W g 3 _ _ _ h]; rfl, by rw [cell_of_row W g 4 _ _ _ h]; rfl,
    frozen_of_row W g 0 _ _ h, frozen_of_row W g 1 _ _ h, frozen_of_row W g 2 _ _ h, frozen_of_row W g 3 _ _ h, frozen_of_row W g 4 _ _ h⟩

theorem IntsAt.first {W : World} {v : Value} {xs : List Int} {l : Nat} (h : IntsAt W v xs) (hl : xs.length = l) (h0 : 0 < l) : ∃ g o c, v = .slice (some ⟨g, o, none⟩) l c ∧ W.cell? ⟨g, o, none⟩ = some (.int .i64 (xs.getD 0 0)) := by
  obtain ⟨_, ⟨rfl, _⟩ | ⟨g, off, cap, rfl, hc⟩⟩ := h
  · simp at hl; omega
  · rw [hl]
    exact ⟨g, off, cap, rfl, by have := hc 0 (by omega); rwa [Nat.add_zero] at this⟩

set_option maxRecDepth 100000 in
set_option maxHeartbeats 4000000 in
theorem iParams (n m : Nat) (h1 : 1 ≤ n) (h32 : n ≤ 32) (hm : m ≤ 128) (S : Nat → Nat) (g : Nat) (w : World) (hU : Ub w g m S) (hS : ∀ i, i < m → S i < 4294967296) (hP : ∀ i, i < m → ∀ k, (S i).testBit k = true → k < n) (ht : Tab w) :
    Calls Tryd.prog 43 #[.agg #[.int .i64 (n : Int), .slice (some ⟨g, 0, none⟩) m m]] w fun e w' => e = .returned (.tuple #[parV n m (szS m S) (prA n (prF m (fun i x => (S i).testBit x)) n) (repL n m (fun i x => (S i).testBit x)), .bool (parO n m (szS m S) (prA n (prF m (fun i x => (S i).testBit x)) n))]) ∧ Below w.heap.size w w' := by
  have HSz := Lib.hid (fun W (h : Ub W g m S) => iSizes n m hm S g W h hS)
  have HPr := Lib.hid (fun W (h : Ub W g m S) (t : Tab W) => ipairs n m h1 h32 hm S g W h hS hP t)
  have HRp := Lib.hid (fun W (h : Ub W g m S) (t : Tab W) => irepl n m h1 h32 hm S g W h hS hP t)
  have LZ : Hid ((szS m S).length = m) := stL_len _ _
  have LP : Hid (2 ≤ n → 0 < (prA n (prF m (fun i x => (S i).testBit x)) n).length) := fun h => by
    obtain ⟨k, rfl⟩ : ∃ k, n = k + 2 := ⟨n - 2, by omega⟩
    have : ∀ a, 0 < (prA (k + 2) (prF m (fun i x => (S i).testBit x)) (a + 1)).length := fun a => by
      induction a with
      | zero => rw [prA, List.length_append, seg_len]; omega
      | succ a ih => rw [prA, List.length_append]; omega
    exact this (k + 1)
  have LR : Hid ((repL n m (fun i x => (S i).testBit x)).length = n) := repL_len _ _ _
  obtain ⟨Z, hZ⟩ : ∃ Z, szS m S = Z := ⟨_, rfl⟩
  obtain ⟨P, hPP⟩ : ∃ P, prA n (prF m (fun i x => (S i).testBit x)) n = P := ⟨_, rfl⟩
  obtain ⟨l, hlp⟩ : ∃ l, P.length = l := ⟨_, rfl⟩
  obtain ⟨R, hR⟩ : ∃ R, repL n m (fun i x => (S i).testBit x) = R := ⟨_, rfl⟩
  rw [hZ] at LZ ⊢
  rw [hPP, hlp] at LP
  rw [hPP]
  rw [hR] at LR ⊢
  simp only [hZ] at HSz
  simp only [hPP] at HPr
  simp only [hR] at HRp
  obtain ⟨B, hB⟩ : ∃ B, w.heap.size = B := ⟨_, rfl⟩
  have hpos : 0 < B := by rw [← hB]; exact ht.pos
  have lg : g < B := by rw [← hB]; exact hU.lt
  obtain ⟨w1, hw1⟩ : ∃ w1, w.alloc (.cells #[.int .i64 (n : Int), .slice (some ⟨g, 0, none⟩) m m] 44) = w1 := ⟨_, rfl⟩
  have z1 : w1.heap.size = B + 1 := by rw [← hw1, World.size_alloc, hB]
  have b1 : Below B w w1 := by rw [← hw1]; exact (Below.refl _ _).alloc (by omega) _
  have A1 : w1.heap[B]? = some (.cells #[.int .i64 (n : Int), .slice (some ⟨g, 0, none⟩) m m] 44 (0, 0)) := by rw [← hw1, ← hB]; exact heap_alloc_new _ _
  obtain ⟨w2, hw2⟩ : ∃ w2, w1.alloc (.cells #[.int .i64 0, .int .i64 0, .int .i64 0, .int .i64 0, .int .i64 0] 66) = w2 := ⟨_, rfl⟩
  have b12 : Below (B + 1) w1 w2 := by rw [← hw2]; exact (Below.refl _ _).alloc (Nat.le_of_eq z1.symm) _
  have b2 : Below B w w2 := b1.trans (b12.mono (by omega))
  have z2 : w2.heap.size = B + 2 := by rw [← hw2, World.size_alloc, z1]
  have R2 : w2.heap[B + 1]? = some (.cells #[.int .i64 0, .int .i64 0, .int .i64 0, .int .i64 0, .int .i64 0] 66 (0, 0)) := by rw [← hw2, ← z1]; exact heap_alloc_new _ _
  have A2 := (b12.block B (Nat.lt_succ_self B)).trans A1
  obtain ⟨K, hK⟩ : ∃ K : World → Prop, K = fun W => Ub W g m S ∧ W.heap[B]? = some (.cells #[.int .i64 (n : Int), .slice (some ⟨g, 0, none⟩) m m] 44 (0, 0)) ∧ W.heap[B + 1]? = some (.cells #[.int .i64 0, .int .i64 0, .int .i64 0, .int .i64 0, .int .i64 0] 66 (0, 0)) ∧ Below B w W ∧ B + 2 ≤ W.heap.size ∧ Tab W := ⟨_, rfl⟩
  have K2 : Hid (K w2) := by rw [hK]; exact ⟨hU.below b2 lg, A2, R2, b2, Nat.le_of_eq z2.symm, ht.below b2 hpos⟩
  have KN : Hid (∀ (b : Nat) (W W' : World), B + 2 ≤ b → Below b W W' → Hid (K W) → Hid (K W')) := fun b W W' hb bb h => by
    rw [hK] at h ⊢
    obtain ⟨q1, q2, q3, q4, q5, q6⟩ := h.out
    exact ⟨q1.below bb (by omega), (bb.block B (by omega)).trans q2, (bb.block (B + 1) (by omega)).trans q3, q4.trans (bb.mono (by omega)), Nat.le_trans q5 bb.size, q6.below bb (by omega)⟩
  have KO : Hid (∀ W, Hid (K W) → Ub W g m S ∧ Tab W ∧ Below B w W ∧ B + 2 ≤ W.heap.size ∧ W.heap[B + 1]? = some (.cells #[.int .i64 0, .int .i64 0, .int .i64 0, .int .i64 0, .int .i64 0] 66 (0, 0))) := fun W h => by
    rw [hK] at h; obtain ⟨q1, q2, q3, q4, q5, q6⟩ := h.out; exact ⟨q1, q6, q4, q5, q3⟩
  have KC : Hid (∀ W, Hid (K W) → W.cell? ⟨B, 0, none⟩ = some (.int .i64 (n : Int)) ∧ W.cell? ⟨B, 1, none⟩ = some (.slice (some ⟨g, 0, none⟩) m m) ∧ Hid (K W)) := fun W h => by
    have := h.out
    rw [hK] at this; obtain ⟨q1, q2, q3, q4, q5, q6⟩ := this
    exact ⟨by rw [cell_of_row W B 0 _ _ _ q2]; rfl, by rw [cell_of_row W B 1 _ _ _ q2]; rfl, h⟩
  have HB := Lib.hid hB
  -- an end: the parameters, or nothing
  have EN : Hid (∀ (W : World) (a b c d e : Int) (o : Bool), Hid (K W) → prm a b c d e = parV n m Z P R → o = parO n m Z P → ∀ (tmps : Array Value), tmps.getD 2 undef = .pointer (some ⟨B + 1, 0, none⟩) → tmps.getD 3 undef = .bool o →
      bodyPost Tryd.prog Tryd.f43 (fun e w' => e = .returned (.tuple #[parV n m Z P R, .bool (parO n m Z P)]) ∧ Below w.heap.size w w') Exit.ret { tmps := tmps, defers := [] } (((((W.setCell ⟨B + 1, 0, none⟩ (.int .i64 a)).setCell ⟨B + 1, 1, none⟩ (.int .i64 b)).setCell ⟨B + 1, 2, none⟩ (.int .i64 c)).setCell ⟨B + 1, 3, none⟩ (.int .i64 d)).setCell ⟨B + 1, 4, none⟩ (.int .i64 e))) := fun W a b c d e o hk hv ho tmps t2 t3 => by
    obtain ⟨-, -, kb, kz, kr⟩ := KO.out W hk
    obtain ⟨R9, F9⟩ := five W (B + 1) _ _ _ _ _ (.int .i64 a) (.int .i64 b) (.int .i64 c) (.int .i64 d) (.int .i64 e) _ kr
    have B9 := F9 B w (Nat.le_succ B) kb
    obtain ⟨w9, hw9⟩ : ∃ w9, (((((W.setCell ⟨B + 1, 0, none⟩ (.int .i64 a)).setCell ⟨B + 1, 1, none⟩ (.int .i64 b)).setCell ⟨B + 1, 2, none⟩ (.int .i64 c)).setCell ⟨B + 1, 3, none⟩ (.int .i64 d)).setCell ⟨B + 1, 4, none⟩ (.int .i64 e)) = w9 := ⟨_, rfl⟩
    rw [hw9] at R9 B9 ⊢
    have hld := run_loadVar_row (P := Tryd.prog) _ _ 66 66 #[.int .i64 a, .int .i64 b, .int .i64 c, .int .i64 d, .int .i64 e] (0, 0) _ R9 Tryd.underlying66 rfl Tryd.infoPrm
    have t2' : tmps[2]?.getD undef = .pointer (some ⟨B + 1, 0, none⟩) := by simpa using t2
    have t3' : tmps[3]?.getD undef = .bool o := by simpa using t3
    refine bodyPost_ret (v := .tuple #[.agg #[.int .i64 a, .int .i64 b, .int .i64 c, .int .i64 d, .int .i64 e], .bool o]) ?_ rfl ⟨by rw [← hv, ← ho]; rfl, by rw [HB.out]; exact B9⟩
    rw [results_cell_tmp rfl]
    simp [asAddr, Result.andThen, t2', t3', hld]
  have HST : Hid (∀ (W : World) (a b c d e : Int), Hid (K W) → (((((W.setCell ⟨B + 1, 0, none⟩ (.int .i64 a)).setCell ⟨B + 1, 1, none⟩ (.int .i64 b)).setCell ⟨B + 1, 2, none⟩ (.int .i64 c)).setCell ⟨B + 1, 3, none⟩ (.int .i64 d)).setCell ⟨B + 1, 4, none⟩ (.int .i64 e)).cell? ⟨B, 0, none⟩ = some (.int .i64 (n : Int)) ∧ (((((W.setCell ⟨B + 1, 0, none⟩ (.int .i64 a)).setCell ⟨B + 1, 1, none⟩ (.int .i64 b)).setCell ⟨B + 1, 2, none⟩ (.int .i64 c)).setCell ⟨B + 1, 3, none⟩ (.int .i64 d)).setCell ⟨B + 1, 4, none⟩ (.int .i64 e)).cell? ⟨B, 1, none⟩ = some (.slice (some ⟨g, 0, none⟩) m m)) := fun W a b c d e h => by
    have bb := (five W (B + 1) _ _ _ _ _ (.int .i64 a) (.int .i64 b) (.int .i64 c) (.int .i64 d) (.int .i64 e) _ (KO.out W h).2.2.2.2).2 (B + 1) W (Nat.le_refl _) (Below.refl _ _)
    exact ⟨(bb.cell (p := ⟨B, 0, none⟩) (Nat.lt_succ_self B)).trans (KC.out W h).1, (bb.cell (p := ⟨B, 1, none⟩) (Nat.lt_succ_self B)).trans (KC.out W h).2.1⟩
  have HPV : Hid (parO n m Z P = false → prm 0 0 0 0 0 = parV n m Z P R) := fun h => by unfold parV; rw [h]; rfl
  have HPT : Hid (parO n m Z P = true → prm n m (R.getD 0 0) (Z.getD 0 0) (P.getD 0 0) = parV n m Z P R) := fun h => by unfold parV; rw [h]; rfl
  by_cases k2 : n < 2
  · have PF : Hid (parO n m Z P = false) := by unfold Hid parO; rw [decide_eq_false (by omega)]; rfl
    have t1 : decide ((n : Int) < 2) = true := decide_eq_true (by omega)
    have t1' : decide (n < 2) = true := decide_eq_true k2
    obtain ⟨c0, c1, -⟩ := KC.out w2 K2
    obtain ⟨-, -, -, -, kr⟩ := KO.out w2 K2
    obtain ⟨d0, d1, d2, d3, d4, f0, f1, f2, f3, f4⟩ := cells5 w2 (B + 1) _ _ _ _ _ _ kr
    clear hU hS hP ht b1 b12 b2 A1 A2 R2 lg kr hK
    go_enter Tryd.func43, Tryd.ntmps43
    go_wp2
    exact EN.out w2 0 0 0 0 0 false K2 (HPV.out PF.out) PF.out.symm _ rfl rfl
  have t1 : decide ((n : Int) < 2) = false := decide_eq_false (by omega)
  have t1' : decide (n < 2) = false := decide_eq_false k2
  by_cases k3 : m = 0
  · have PF : Hid (parO n m Z P = false) := by unfold Hid parO; rw [decide_eq_false (show ¬ 0 < m by omega), Bool.false_and, Bool.and_false]
    have t2 : ((m : Int) == 0) = true := by simp [k3]
    have t2' : (m == 0) = true := by simp [k3]
    obtain ⟨c0, c1, -⟩ := KC.out w2 K2
    obtain ⟨-, -, -, -, kr⟩ := KO.out w2 K2
    obtain ⟨d0, d1, d2, d3, d4, f0, f1, f2, f3, f4⟩ := cells5 w2 (B + 1) _ _ _ _ _ _ kr
    clear hU hS hP ht b1 b12 b2 A1 A2 R2 lg kr hK k3
    go_enter Tryd.func43, Tryd.ntmps43
    go_wp2
    exact EN.out w2 0 0 0 0 0 false K2 (HPV.out PF.out) PF.out.symm _ rfl rfl
  have t2 : ((m : Int) == 0) = false := by simp [k3]
  have t2' : (m == 0) = false := by simp [k3]
  obtain ⟨c0, c1, -⟩ := KC.out w2 K2
  have K2d := KN.out (B + 2) w2 w2.drew (Nat.le_refl _) (Below.refl _ _).drew K2
  obtain ⟨wd, hwd⟩ : ∃ wd, w2.drew = wd := ⟨_, rfl⟩
  rw [hwd] at K2d
  clear hU hS hP ht b1 b12 b2 A1 A2 R2 lg hK
  go_enter Tryd.func43, Tryd.ntmps43
  go_wp2
  clear c0 c1
  go_region_held3 (fun w' => w'.cell? ⟨B, 0, none⟩ = some (.int .i64 (n : Int)) ∧ w'.cell? ⟨B, 1, none⟩ = some (.slice (some ⟨g, 0, none⟩) m m) ∧ Hid (K w')) (first | exact KC.out _ (by assumption) | exact KC.out _ (by rw [hwd]; assumption))
    (first
      | (go_at_call 55; (try rw [hwd]); refine (HSz.out _ (KO.out _ (by assumption)).1).mono ?_; rintro e wa ⟨ra, rfl, ia, ba⟩; have KA := KN.out _ _ _ (KO.out _ (by assumption)).2.2.2.1 ba (by assumption); have IA := Lib.hid (fun W' (h : Below wa.heap.size wa W') => ia.at.below h (Nat.le_refl _)); have BA := Lib.hid ba; clear ia ba)
      | (go_at_call 56; (try rw [hwd]); refine (HPr.out _ (KO.out _ (by assumption)).1 (KO.out _ (by assumption)).2.1).mono ?_; rintro e wb ⟨rb, rfl, ib, bb⟩; have KB := KN.out _ _ _ (KO.out _ (by assumption)).2.2.2.1 bb (by assumption); have IB := Lib.hid (fun W' (h : Below wb.heap.size wb W') => ib.at.below h (Nat.le_refl _)); have BB := Lib.hid bb; clear ib bb))
  all_goals
    first
      | (have ia := Lib.hid (IA.out _ BB.out); have ib := Lib.hid (IB.out _ (Below.refl _ _)); have kz := KB)
      | (have ia := Lib.hid (IA.out _ (Below.refl _ _)); have ib := Lib.hid (IB.out _ BA.out); have kz := KA)
    have KD := Lib.hid (fun d => KN.out _ _ _ (KO.out _ kz).2.2.2.1 (below_drewN (Below.refl _ _) d) kz)
    have m0 : (0 : Int) < (m : Int) := by omega
    have m0' : 0 < m := by omega
    have lp := LP.out (by omega)
    have n0 : (0 : Int) < (n : Int) := by omega
    have n0' : 0 < n := by omega
    obtain ⟨ga, oa, ca, rfl, cza⟩ := ia.out.first LZ.out m0'
    obtain ⟨gb, ob, cb, rfl, czb⟩ := ib.out.first hlp lp
    have lp0 : (0 : Int) < (l : Int) := by omega
    have HAa := Lib.hid (fun d c => iareAll Z c _ _ (ia.out.drewN d))
    have HAb := Lib.hid (fun d c => iareAll P c _ _ (ib.out.drewN d))
    obtain ⟨-, -, -, -, kr⟩ := KO.out _ kz
    obtain ⟨d0, d1, d2, d3, d4, f0, f1, f2, f3, f4⟩ := cells5 _ (B + 1) _ _ _ _ _ _ kr
    obtain ⟨c0, c1, -⟩ := KC.out _ kz
    have HZs : Hid (Z.all (fun x => x == Z.getD 0 0) = sameL Z) := rfl
    have HPs : Hid (P.all (fun x => x == P.getD 0 0) = sameL P) := rfl
    have PU : Hid (parO n m Z P = (decide (2 ≤ Z.getD 0 0) && (sameL Z && sameL P))) := by unfold Hid parO; rw [decide_eq_true (by omega : 2 ≤ n), decide_eq_true m0']; simp only [Bool.true_and]
    obtain ⟨sz, hsz⟩ : ∃ x, Z.getD 0 0 = x := ⟨_, rfl⟩
    obtain ⟨pz, hpz⟩ : ∃ x, P.getD 0 0 = x := ⟨_, rfl⟩
    rw [hsz] at cza
    rw [hpz] at czb
    have HAa2 := Lib.hid (fun d => HAa.out d sz)
    have HAb2 := Lib.hid (fun d => HAb.out d pz)
    simp only [← hsz, HZs.out] at HAa2
    simp only [← hpz, HPs.out] at HAb2
    simp only [hsz] at HAa2
    simp only [hpz] at HAb2
    have RE : Hid (parO n m Z P = true → prm n m (R.getD 0 0) sz pz = parV n m Z P R) := fun h => by rw [← hsz, ← hpz]; exact HPT.out h
    have KDD := Lib.hid (fun d => KN.out _ _ _ (KO.out _ kz).2.2.2.1 ((below_drewN (Below.refl _ _) d).drew) kz)
    rw [hsz] at PU
    by_cases k4 : sz < 2
    · have PF : Hid (parO n m Z P = false) := by rw [PU.out, decide_eq_false (by omega)]; rfl
      have t4 : decide (sz < 2) = true := decide_eq_true k4
      clear HAa HAb HAa2 HAb2 kr hsz hpz
      go_wp2
      go_quiet (fail)
      go_wp2
      exact EN.out _ 0 0 0 0 0 false (KD.out _) (HPV.out PF.out) PF.out.symm _ rfl rfl
    have t4 : decide (sz < 2) = false := decide_eq_false k4
    rw [decide_eq_true (by omega : 2 ≤ sz), Bool.true_and] at PU
    obtain ⟨b1, hb1⟩ : ∃ b, sameL Z = b := ⟨_, rfl⟩
    obtain ⟨b2, hb2⟩ : ∃ b, sameL P = b := ⟨_, rfl⟩
    simp only [hb1] at HAa2
    simp only [hb2] at HAb2
    rw [hb1, hb2] at PU
    clear HAa HAb kr hsz hpz hb1 hb2 HZs HPs
    cases b1 with
    | false =>
      have PF : Hid (parO n m Z P = false) := PU
      clear HAb2
      go_wp2
      go_quiet (fail)
      go_wp2_with fail
      refine (HAa2.out _).mono ?_
      rintro e w9 ⟨rfl, rfl⟩
      go_wp2
      exact EN.out _ 0 0 0 0 0 false (KD.out _) (HPV.out PF.out) PF.out.symm _ rfl rfl
    | true =>
      cases b2 with
      | false =>
        have PF : Hid (parO n m Z P = false) := PU
        go_wp2
        go_quiet (fail)
        go_wp2_with fail
        refine (HAa2.out _).mono ?_
        rintro e w9 ⟨rfl, rfl⟩
        go_wp2_with fail
        refine (HAb2.out _).mono ?_
        rintro e w9 ⟨rfl, rfl⟩
        go_wp2
        exact EN.out _ 0 0 0 0 0 false (KD.out _) (HPV.out PF.out) PF.out.symm _ rfl rfl
      | true =>
        have PT : Hid (parO n m Z P = true) := PU
        go_wp2
        go_quiet (fail)
        go_wp2_with fail
        refine (HAa2.out _).mono ?_
        rintro e w9 ⟨rfl, rfl⟩
        go_wp2_with fail
        refine (HAb2.out _).mono ?_
        rintro e w9 ⟨rfl, rfl⟩
        clear HAa2 HAb2
        go_wp2
        clear c0 c1 d0 d1 d2 d3 d4 f0 f1 f2 f3 f4
        refine wp_region_held_drew (S := fun w' => w'.cell? ⟨B, 0, none⟩ = some (.int .i64 (n : Int)) ∧ w'.cell? ⟨B, 1, none⟩ = some (.slice (some ⟨g, 0, none⟩) m m)) (by kernel_rfl) (by first | exact ⟨(KC.out _ (KDD.out _)).1, (KC.out _ (KDD.out _)).2.1⟩ | exact ⟨(KC.out _ (KD.out _)).1, (KC.out _ (KD.out _)).2.1⟩) (fun hHeld => ?_)
        refine wpAnyH_take (i := 0) (oi := { dst := some 43, op := Op.fieldAddr 44 (Operand.tmp 1) 0, type := 0, pos := "l10_designs.go:227", after := #[], guard := none }) (v := ?_) rfl (by kernel_rfl) (by kernel_rfl) (by kernel_rfl) (fun _ _ _ h => h) (Or.inl ⟨by rfl, ?_⟩) (by assumption) ?_
        rotate_left
        · intro w hSw; (try dsimp only at hSw); go_simp
          try with_reducible rfl
        simp only [Act.put, List.setIfInBounds_toArray, List.set_cons_zero, List.set_cons_succ]
        refine wpAnyH_take (i := 1) (oi := { dst := some 44, op := Op.load 2 (Operand.tmp 43), type := 2, pos := "l10_designs.go:227", after := #[{ on := 0, ground := Ground.data }], guard := none }) (v := ?_) rfl (by kernel_rfl) (by kernel_rfl) (by kernel_rfl) (fun _ _ _ h => h) (Or.inl ⟨by rfl, ?_⟩) (by assumption) ?_
        rotate_left
        · intro w hSw; (try dsimp only at hSw); go_simp
          try with_reducible rfl
        simp only [Act.put, List.setIfInBounds_toArray, List.set_cons_zero, List.set_cons_succ]
        refine wpAnyH_take (i := 2) (oi := { dst := some 45, op := Op.fieldAddr 44 (Operand.tmp 1) 1, type := 0, pos := "l10_designs.go:227", after := #[], guard := none }) (v := ?_) rfl (by kernel_rfl) (by kernel_rfl) (by kernel_rfl) (fun _ _ _ h => h) (Or.inl ⟨by rfl, ?_⟩) (by assumption) ?_
        rotate_left
        · intro w hSw; (try dsimp only at hSw); go_simp
          try with_reducible rfl
        simp only [Act.put, List.setIfInBounds_toArray, List.set_cons_zero, List.set_cons_succ]
        refine wpAnyH_take (i := 3) (oi := { dst := some 46, op := Op.load 42 (Operand.tmp 45), type := 42, pos := "l10_designs.go:227", after := #[{ on := 2, ground := Ground.data }], guard := none }) (v := ?_) rfl (by kernel_rfl) (by kernel_rfl) (by kernel_rfl) (fun _ _ _ h => h) (Or.inl ⟨by rfl, ?_⟩) (by assumption) ?_
        rotate_left
        · intro w hSw; (try dsimp only at hSw); go_simp
          try with_reducible rfl
        simp only [Act.put, List.setIfInBounds_toArray, List.set_cons_zero, List.set_cons_succ]
        refine wpAnyH_take (i := 4) (oi := { dst := some 47, op := Op.call { callee := Callee.builtin Builtin.len, args := #[Operand.tmp 46], argTypes := #[42] }, type := 3, pos := "l10_designs.go:227", after := #[{ on := 3, ground := Ground.data }], guard := none }) (v := ?_) rfl (by kernel_rfl) (by kernel_rfl) (by kernel_rfl) (fun _ _ _ h => h) (Or.inl ⟨by rfl, ?_⟩) (by assumption) ?_
        rotate_left
        · intro w hSw; (try dsimp only at hSw); go_simp
          try with_reducible rfl
        simp only [Act.put, List.setIfInBounds_toArray, List.set_cons_zero, List.set_cons_succ]
        refine wpAnyH_take (i := 5) (oi := { dst := some 48, op := Op.load 44 (Operand.tmp 1), type := 44, pos := "l10_designs.go:227", after := #[], guard := none }) (v := ?_) rfl (by kernel_rfl) (by kernel_rfl) (by kernel_rfl) (fun _ _ _ h => h) (Or.inl ⟨by rfl, ?_⟩) (by assumption) ?_
        rotate_left
        · intro w hSw; (try dsimp only at hSw); go_simp
          try with_reducible rfl
        simp only [Act.put, List.setIfInBounds_toArray, List.set_cons_zero, List.set_cons_succ]
        refine wpAnyH_take (i := 9) (oi := { dst := some 52, op := Op.move (Operand.tmp 6), type := 2, pos := "l10_designs.go:227", after := #[], guard := none }) (v := ?_) rfl (by kernel_rfl) (by kernel_rfl) (by kernel_rfl) (fun _ _ _ h => h) (Or.inl ⟨by rfl, ?_⟩) (by assumption) ?_
        rotate_left
        · intro w hSw; (try dsimp only at hSw); go_simp
          try with_reducible rfl
        simp only [Act.put, List.setIfInBounds_toArray, List.set_cons_zero, List.set_cons_succ]
        refine wpAnyH_take (i := 10) (oi := { dst := some 53, op := Op.move (Operand.tmp 7), type := 2, pos := "l10_designs.go:227", after := #[], guard := none }) (v := ?_) rfl (by kernel_rfl) (by kernel_rfl) (by kernel_rfl) (fun _ _ _ h => h) (Or.inl ⟨by rfl, ?_⟩) (by assumption) ?_
        rotate_left
        · intro w hSw; (try dsimp only at hSw); go_simp
          try with_reducible rfl
        simp only [Act.put, List.setIfInBounds_toArray, List.set_cons_zero, List.set_cons_succ]
        refine wpAnyH_ready (rs := [6]) (by kernel_rfl) (by simp) ?_
        refine AllReadyH.cons rfl (fun K' hK' => ?_) AllReadyH.nil
        go_simp
        go_wp2_with fail
        refine (HRp.out _ (KO.out _ (by first | exact KD.out _ | exact KDD.out _)).1 (KO.out _ (by first | exact KD.out _ | exact KDD.out _)).2.1).mono ?_
        rintro e wc ⟨rc, rfl, ic, bc⟩
        have KC9 := KN.out _ _ _ (KO.out _ (by first | exact KD.out _ | exact KDD.out _)).2.2.2.1 bc (by first | exact KD.out _ | exact KDD.out _)
        obtain ⟨gr, orr, cr, rfl, czr⟩ := ic.at.first LR.out h1
        obtain ⟨-, -, -, -, kr⟩ := KO.out _ KC9
        obtain ⟨d0, d1, d2, d3, d4, f0, f1, f2, f3, f4⟩ := cells5 _ (B + 1) _ _ _ _ _ _ kr
        clear ic bc kr
        refine hK'.out _ _ ⟨(KC.out _ KC9).1, (KC.out _ KC9).2.1⟩ (fun hHeld => ?_)
        clear hK' K'
        refine wpAnyH_take (i := 7) (oi := { dst := some 50, op := Op.indexAddr 55 (Operand.tmp 49) (Operand.const (Value.int IntKind.i64 0)), type := 0, pos := "l10_designs.go:227", after := #[{ on := 6, ground := Ground.data }], guard := none }) (v := ?_) rfl (by kernel_rfl) (by kernel_rfl) (by kernel_rfl) (fun _ _ _ h => h) (Or.inl ⟨by rfl, ?_⟩) (by assumption) ?_
        rotate_left
        · intro w hSw; (try dsimp only at hSw); go_simp
          try with_reducible rfl
        simp only [Act.put, List.setIfInBounds_toArray, List.set_cons_zero, List.set_cons_succ]
        refine wpAnyH_ready (rs := [8]) (by kernel_rfl) (by simp) ?_
        refine AllReadyH.cons rfl (fun K' hK' => ?_) AllReadyH.nil
        go_simp
        refine hK'.out _ _ ⟨(KC.out _ KC9).1, (KC.out _ KC9).2.1⟩ (fun hHeld => ?_)
        clear hK' K'
        refine wpAnyH_take (i := 11) (oi := { dst := some 54, op := Op.build 66 #[(0, Operand.tmp 44), (1, Operand.tmp 47), (2, Operand.tmp 51), (3, Operand.tmp 52), (4, Operand.tmp 53)], type := 66, pos := "l10_designs.go:227", after := #[{ on := 1, ground := Ground.data }, { on := 4, ground := Ground.data }, { on := 8, ground := Ground.data }, { on := 9, ground := Ground.data }, { on := 10, ground := Ground.data }], guard := none }) (v := ?_) rfl (by kernel_rfl) (by kernel_rfl) (by kernel_rfl) (fun _ _ _ h => h) (Or.inl ⟨by rfl, ?_⟩) (by assumption) ?_
        rotate_left
        · intro w hSw; (try dsimp only at hSw); go_simp
          try with_reducible rfl
        simp only [Act.put, List.setIfInBounds_toArray, List.set_cons_zero, List.set_cons_succ]
        refine wpAnyH_ready (rs := [12]) (by kernel_rfl) (by simp) ?_
        refine AllReadyH.cons rfl (fun K' hK' => ?_) AllReadyH.nil
        go_simp
        refine hK'.out _ _ (HST.out _ _ _ _ _ _ KC9) (fun hHeld => ?_)
        clear hK' K'
        refine wpAnyH_take (i := 13) (oi := { dst := some 3, op := Op.assign (Operand.const (Value.bool true)), type := 4, pos := "l10_designs.go:227", after := #[{ on := 12, ground := Ground.chain }, { on := 0, ground := Ground.phase }, { on := 1, ground := Ground.phase }, { on := 2, ground := Ground.phase }, { on := 3, ground := Ground.phase }, { on := 4, ground := Ground.phase }, { on := 5, ground := Ground.phase }, { on := 6, ground := Ground.phase }, { on := 7, ground := Ground.phase }, { on := 8, ground := Ground.phase }, { on := 9, ground := Ground.phase }, { on := 10, ground := Ground.phase }, { on := 11, ground := Ground.phase }, { on := 12, ground := Ground.phase }], guard := none }) (v := ?_) rfl (by kernel_rfl) (by kernel_rfl) (by kernel_rfl) (fun _ _ _ h => h) (Or.inl ⟨by rfl, ?_⟩) (by assumption) ?_
        rotate_left
        · intro w hSw; (try dsimp only at hSw); go_simp
          try with_reducible rfl
        simp only [Act.put, List.setIfInBounds_toArray, List.set_cons_zero, List.set_cons_succ]
        refine wpAnyH_done (by kernel_rfl) ?_ _
        clear hHeld
        go_wp2
        exact EN.out _ n m (R.getD 0 0) sz pz true KC9 (RE.out PT.out) PT.out.symm _ rfl rfl
end Go.Proofs.YtanfodbpgpfjmabDoor
