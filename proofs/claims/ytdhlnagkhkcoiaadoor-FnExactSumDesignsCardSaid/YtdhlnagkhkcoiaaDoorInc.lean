/- Blocks as sets of bits (blockSetsOf), and a design in the form that computes (incidenceOf). -/
import Derived.Test.YtdhlnagkhkcoiaaDoorStx
import Derived.Test.YtdhlnagkhkcoiaaDoorRowc
import Derived.Deep.WholeRow
import Derived.Deep.MidRow
namespace Go.Proofs.YtdhlnagkhkcoiaaDoor
open Go.RowKit Go.Shelf
set_option linter.unusedVariables false

theorem RowsAt.rowsIn {w : World} {v : Value} {xss : List (List Int)} (h : RowsAt w v xss) : ∃ a cap, v = .slice a xss.length cap ∧ ∀ W, Below w.heap.size w W → ∀ j, j < xss.length → ∃ g off u, a = some ⟨g, off, none⟩ ∧ W.cell? ⟨g, off + j, none⟩ = some u ∧ IntsAt W u (xss.getD j []) := by
  obtain ⟨a, cap, e, -⟩ := h.shape
  refine ⟨a, cap, e, fun W hW j hj => ?_⟩
  obtain ⟨a', cap', e', K⟩ := (h.below hW (Nat.le_refl _)).shape
  rw [e] at e'
  simp only [Value.slice.injEq] at e'
  obtain ⟨rfl, -, -⟩ := e'
  exact K j hj
/-- All lists are blocks of n points. -/
def Blks (n : Int) (xss : List (List Int)) : Prop := 1 ≤ n ∧ n ≤ 32 ∧ ∀ i, i < xss.length → isBlk n (xss.getD i [])
noncomputable def blksB (n : Int) (xss : List (List Int)) : Bool := @decide (Blks n xss) (Classical.propDecidable _)
theorem blksB_true {n : Int} {xss : List (List Int)} (h : Blks n xss) : blksB n xss = true := @decide_eq_true _ (Classical.propDecidable _) h
theorem blksB_false {n : Int} {xss : List (List Int)} (h : ¬ Blks n xss) : blksB n xss = false := @decide_eq_false _ (Classical.propDecidable _) h
theorem of_blksB {n : Int} {xss : List (List Int)} (h : blksB n xss = true) : Blks n xss := @of_decide_eq_true _ (Classical.propDecidable _) h
theorem not_blksB {n : Int} {xss : List (List Int)} (h : blksB n xss = false) : ¬ Blks n xss := fun hd => by rw [blksB_true hd] at h; cases h
/-- The sets have the bits of the blocks. -/
def SetsF (xss : List (List Int)) (k : Nat) (S : Nat → Nat) : Prop := ∀ i, i < k → S i < 4294967296 ∧ ∀ z : Nat, (S i).testBit z = decide ((z : Int) ∈ xss.getD i [])
theorem rises_wider {lo hi hi' : Int} {xs : List Int} (h : Rises lo hi xs) (e : hi ≤ hi') : Rises lo hi' xs := fun i hi => by
  obtain ⟨a, b, c⟩ := h i hi
  exact ⟨a, by omega, c⟩
theorem blk_valid32 {n : Int} {xs : List Int} (h1 : n ≤ 32) (h : isBlk n xs) : validSet xs 32 = true := by
  unfold validSet
  rw [risesB_true (rises_wider h.2 (by omega))]; rfl
theorem valid_blk {n : Int} {xs : List Int} (h1 : 1 ≤ n) (h2 : n ≤ 32) : validSet xs n = true ↔ Rises 0 (n - 1) xs := by
  unfold validSet
  rw [decide_eq_true (show 0 ≤ n by omega), decide_eq_true h2, Bool.true_and, Bool.true_and]
  exact ⟨of_risesB, risesB_true⟩

set_option maxRecDepth 100000 in
set_option maxHeartbeats 4000000 in
theorem iBlockSets (n : Int) (xss : List (List Int)) (hm : xss.length ≤ 1048576) (w : World) (v : Value) (hv : RowsAt w v xss) :
    Calls Tryd.prog 67 #[.int .i64 n, v] w fun e w' => ∃ z, e = .returned (.tuple #[z, .bool (blksB n xss)]) ∧ (blksB n xss = true → ∃ g S, z = .slice (some ⟨g, 0, none⟩) xss.length xss.length ∧ w.heap.size ≤ g ∧ Ub w' g xss.length S ∧ SetsF xss xss.length S) ∧ (blksB n xss = false → ∃ a l c, z = .slice a l c) ∧ Below w.heap.size w w' := by
  by_cases h : 1 ≤ n ∧ n ≤ 32
  · obtain ⟨h1, h2⟩ := h
    obtain ⟨a, cap, rfl, K⟩ := hv.rowsIn
    have YES : Hid ((∀ i, i < xss.length → isBlk n (xss.getD i [])) → blksB n xss = true) := fun h => blksB_true ⟨h1, h2, h⟩
    have NO : Hid (∀ i, i < xss.length → ¬ isBlk n (xss.getD i []) → blksB n xss = false) := fun i hi h => blksB_false fun k => h (k.2.2 i hi)
    obtain ⟨V, hV⟩ : ∃ V, blksB n xss = V := ⟨_, rfl⟩
    rw [hV] at YES NO ⊢
    obtain ⟨m, hmm⟩ : ∃ m, xss.length = m := ⟨_, rfl⟩
    rw [hmm] at YES NO K hm ⊢
    have hmk := fun W : World => run_make_row' (P := Tryd.prog) 51 81 (.int .u32 0) 4 Tryd.underlying51 Tryd.infoSet rfl .i64 .i64 m (by omega) (by omega) W
    have V1 : Hid (∀ xs : List Int, validSet xs n = true ↔ Rises 0 (n - 1) xs) := fun xs => valid_blk h1 h2
    have V2 : Hid (∀ xs : List Int, isBlk n xs → validSet xs 32 = true) := fun xs h => blk_valid32 h2 h
    obtain ⟨B, hB⟩ : ∃ B, w.heap.size = B := ⟨_, rfl⟩
    obtain ⟨w1, hw1⟩ : ∃ w1, w.alloc (.cells (madeCells #[.int .u32 0] m) 81) = w1 := ⟨_, rfl⟩
    have b1 : Below B w w1 := by rw [← hw1]; exact (Below.refl _ _).alloc (by omega) _
    have U1 : Hid (Ub w1 B m (fun _ => 0)) := by unfold Hid Ub; rw [← hw1, made_uar, ← hB]; exact heap_alloc_new _ _
    have B1 := Lib.hid b1
    rw [hB] at K ⊢
    have HK := Lib.hid K
    have HVS := Lib.hid (fun W u (xs : List Int) (hu : IntsAt W u xs) => ivalid W u xs n hu)
    have HPS := Lib.hid (fun W u (xs : List Int) (hu : IntsAt W u xs) => ipsOf xs u W hu)
    have q1 : decide (n < 1) = false := decide_eq_false (by omega)
    have q2 : decide (n > 32) = false := decide_eq_false (by omega)
    have q3 : decide (32 < n) = false := decide_eq_false (by omega)
    clear hv K hV b1 h1 h2
    go_enter Tryd.func67, Tryd.ntmps67
    go_wp2
    try rw [hw1]
    try rw [hB]
    clear hw1 hmk hB
    go_loopw [20] (fun i wr => ∃ j : Nat, j ≤ m ∧ i = .int .i64 j ∧ Hid (∀ i, i < j → isBlk n (xss.getD i [])) ∧ (∃ S, Hid (Ub wr B m S) ∧ Hid (SetsF xss j S)) ∧ Hid (Below B w wr)) (fun i _ => m - (intOf i).toNat)
    case atStart => exact ⟨0, by omega, rfl, fun i h => by omega, ⟨_, U1, fun i h => by omega⟩, B1⟩
    case round =>
      obtain ⟨j, hj, rfl, hP, ⟨S, hU, hS⟩, hBl⟩ := hrel
      by_cases c : j < m
      · have k1 : decide (j < m) = true := by simpa using c
        have k1' : decide ((j : Int) < (m : Int)) = true := decide_eq_true (by omega)
        have w3 := IntWalk.i64_in ((j : Int) + 1) (by omega)
        have j0 : (0 : Int) ≤ (j : Int) := by omega
        have j1 : (j : Int) < (m : Int) := by omega
        obtain ⟨g, off, u, rfl, hu, hi⟩ := HK.out wr hBl.out j c
        have HV := Lib.hid (HVS.out wr u _ hi)
        have HP := Lib.hid (HPS.out wr u _ hi)
        obtain ⟨r, hr⟩ : ∃ r, xss.getD j [] = r := ⟨_, rfl⟩
        obtain ⟨ua, uc, rfl, -, -⟩ := hi.shape
        have NJ := Lib.hid (NO.out j c)
        rw [hr] at HV HP NJ hu
        obtain ⟨l, hl⟩ : ∃ l, r.length = l := ⟨_, rfl⟩
        rw [hr, hl] at hi
        rw [hl] at HV HP hu
        by_cases z : l = 0
        · have t1 : ((l : Int) == 0) = true := by simp [z]
          have t2 : (l == 0) = true := by simp [z]
          have V3 := Lib.hid (NJ.out (fun h => by have := h.1; omega))
          clear hi
          go_wp2
          go_ret2
          exact ⟨_, by rw [V3.out]; rfl, fun h => (by rw [V3.out] at h; cases h), fun _ => ⟨_, _, _, rfl⟩, hBl.out⟩
        · have t1 : ((l : Int) == 0) = false := by simp [z]
          have t2 : (l == 0) = false := by simp [z]
          cases hq : validSet r n with
          | false =>
            have V3 := Lib.hid (NJ.out (fun h => by have := (V1.out r).2 h.2; rw [hq] at this; cases this))
            rw [hq] at HV
            clear hq hi
            go_wp2_with fail
            refine HV.out.mono ?_
            rintro e w2 ⟨rfl, rfl⟩
            go_wp2
            go_ret2
            exact ⟨_, by rw [V3.out]; rfl, fun h => (by rw [V3.out] at h; cases h), fun _ => ⟨_, _, _, rfl⟩, hBl.out⟩
          | true =>
            have bk : isBlk n r := ⟨by omega, (V1.out r).1 hq⟩
            have v32 := V2.out r bk
            rw [hq] at HV
            rw [v32] at HP
            have BK : Hid (∀ i, i < j + 1 → isBlk n (xss.getD i [])) := fun i hi => by
              by_cases e : i = j
              · rw [e, hr]; exact bk
              · exact hP.out i (by omega)
            have old := hU.out.cell j c
            have fz := hU.out.frozen j
            have HR := Lib.hid hr
            clear hq hi v32 bk hr
            go_wp2_with fail
            refine HV.out.mono ?_
            rintro e w2 ⟨rfl, rfl⟩
            go_wp2_with fail
            refine HP.out.mono ?_
            rintro e w3 ⟨s, rfl, hs, rfl⟩
            have P := hs.1 rfl
            have U2 := Lib.hid (hU.out.set j s)
            have S2 : Hid (SetsF xss (j + 1) (updN S j s)) := fun i hi => by
              unfold updN
              by_cases e : i = j
              · rw [if_pos e, e, HR.out]; exact P
              · rw [if_neg e]; exact hS.out i (by omega)
            have B2 : Hid (Below B w (wr.setCell ⟨B, j, none⟩ (.int .u32 s))) := hBl.out.setCell (p := ⟨B, j, none⟩) (Nat.le_refl _) _
            clear hs P
            go_wp2
            go_roundw
            case rel => exact ⟨j + 1, by omega, by go_num, BK, ⟨_, U2, S2⟩, B2⟩
            case measure => simp [intOf]; omega
      · have k1 : decide (j < m) = false := by simpa using c
        have k1' : decide ((j : Int) < (m : Int)) = false := decide_eq_false (by omega)
        obtain rfl : j = m := by omega
        have V3 := Lib.hid (YES.out hP.out)
        go_wp2
        go_ret2
        exact ⟨_, by rw [V3.out]; rfl, fun _ => ⟨B, S, rfl, Nat.le_refl _, hU.out, hS.out⟩, fun h => (by rw [V3.out] at h; cases h), hBl.out⟩
  · have V : Hid (blksB n xss = false) := blksB_false fun k => h ⟨k.1, k.2.1⟩
    obtain ⟨a, cap, rfl, -⟩ := hv.shape
    by_cases h1 : n < 1
    · have q1 : decide (n < 1) = true := decide_eq_true h1
      clear h hv
      go_enter Tryd.func67, Tryd.ntmps67
      go_wp2
      go_ret2
      exact ⟨_, by rw [V.out]; rfl, fun h => (by rw [V.out] at h; cases h), fun _ => ⟨_, _, _, rfl⟩, Below.refl _ _⟩
    · have q1 : decide (n < 1) = false := decide_eq_false h1
      have q2 : decide (n > 32) = true := decide_eq_true (by omega)
      have q3 : decide (32 < n) = true := decide_eq_true (by omega)
      clear h hv
      go_enter Tryd.func67, Tryd.ntmps67
      go_wp2
      go_ret2
      exact ⟨_, by rw [V.out]; rfl, fun h => (by rw [V.out] at h; cases h), fun _ => ⟨_, _, _, rfl⟩, Below.refl _ _⟩

/-! A design in the form that computes (incidenceOf). -/
section
open Go.RowKit Go.Shelf
set_option linter.unusedVariables false

theorem iorder (u : Value) (w : World) (a : Option Addr) (l c : Nat) (hu : u = .slice a l c) :
    Calls Tryd.prog 69 #[u] w fun e w' => e = .returned (.func (.func 84) #[] #[.pointer (some ⟨w.heap.size, 0, none⟩)]) ∧ w' = w.alloc (.cells #[u] 51) := by
  have hmf : ∀ (fn : Fn) (first cap : Array Value) (w : World), (Instr.makeFunc fn first cap).run Tryd.prog w = .ok (.func fn first cap) w := fun _ _ _ _ => rfl
  subst hu
  go_enter Tryd.func69, Tryd.ntmps69
  go_wp2
  go_ret
  exact ⟨rfl, rfl⟩

theorem order_cmp {n : Int} {xss : List (List Int)} {S : Nat → Nat} {m i : Nat} (hn : n ≤ 32) (hS : SetsF xss m S) (h0 : 0 < i) (hi : i < m) (h1 : Rises 0 (n - 1) (xss.getD (i - 1) [])) (h2 : Rises 0 (n - 1) (xss.getD i [])) :
    Op.bytesLess (textOf (S i)) (textOf (S (i - 1))) = decide (0 < cmpL (xss.getD (i - 1) []) (xss.getD i [])) := by
  rw [text_less, blk_fls hn h1 (hS (i - 1) (by omega)).2, blk_fls hn h2 (hS i hi).2, cmp_anti]
  rcases cmp_three (xss.getD (i - 1) []) (xss.getD i []) with h | h | h <;> rw [h] <;> decide
theorem des_eq {n : Int} {xss : List (List Int)} {S : Nat → Nat} (hb : blksB n xss = true) (hm : xss.length ≤ 128) (hS : SetsF xss xss.length S) : inOrderB S xss.length = desB n xss := by
  obtain ⟨h1, h2, h3⟩ := of_blksB hb
  have key : ∀ i, 0 < i → i < xss.length → (Op.bytesLess (textOf (S i)) (textOf (S (i - 1))) = false ↔ ¬ 0 < cmpL (xss.getD (i - 1) []) (xss.getD i [])) := fun i a b => by
    rw [order_cmp h2 hS a b (h3 (i - 1) (by omega)).2 (h3 i b).2]; simp
  cases e : desB n xss with
  | true =>
    have d := of_desB e
    exact inOrder_true fun i a b => (key i a b).2 ((d.2.2.2 i b).2 a)
  | false =>
    cases e2 : inOrderB S xss.length with
    | false => rfl
    | true =>
      have o : inOrder S xss.length := @of_decide_eq_true _ (Classical.propDecidable _) e2
      exact absurd ⟨h1, h2, hm, fun i hi => ⟨h3 i hi, fun a => (key i a hi).1 (o i a hi)⟩⟩ (not_desB e)
theorem des_blks {n : Int} {xss : List (List Int)} (h : blksB n xss = false) : desB n xss = false := desB_false fun d => not_blksB h ⟨d.1, d.2.1, fun i hi => (d.2.2.2 i hi).1⟩

theorem Tryd.infoInc : (Tryd.prog.info? 53).map (·.size) = some 2 := by kernel_rfl
/-- An incidence. -/
def incV (n : Int) (u : Value) : Value := .agg #[.int .i64 n, u]
/-- What incidenceOf leaves. -/
def IncOut (n : Int) (xss : List (List Int)) (B : Nat) (w' : World) (z : Value) (ok : Bool) : Prop :=
  (ok = false → z = .agg #[.int .i64 0, .slice none 0 0]) ∧ (ok = true → ∃ g S, z = .agg #[.int .i64 n, .slice (some ⟨g, 0, none⟩) xss.length xss.length] ∧ B ≤ g ∧ Ub w' g xss.length S ∧ SetsF xss xss.length S)

set_option maxRecDepth 100000 in
set_option maxHeartbeats 4000000 in
theorem iInc (n : Int) (xss : List (List Int)) (hx : xss.length ≤ 1048576) (w : World) (v : Value) (hv : RowsAt w v xss) (ht : Tab w) :
    Calls Tryd.prog 48 #[.agg #[.int .i64 n, v]] w fun e w' => ∃ z, e = .returned (.tuple #[z, .bool (desB n xss)]) ∧ IncOut n xss w.heap.size w' z (desB n xss) ∧ Below w.heap.size w w' := by
  obtain ⟨a, cap, rfl, -⟩ := hv.shape
  obtain ⟨m, hm⟩ : ∃ m, xss.length = m := ⟨_, rfl⟩
  obtain ⟨B, hB⟩ : ∃ B, w.heap.size = B := ⟨_, rfl⟩
  have hpos : 0 < B := by rw [← hB]; exact ht.pos
  rw [hm] at hv hx ⊢
  obtain ⟨w1, hw1⟩ : ∃ w1, w.alloc (.cells #[.int .i64 n, .slice a m cap] 27) = w1 := ⟨_, rfl⟩
  have z1 : w1.heap.size = B + 1 := by rw [← hw1, World.size_alloc, hB]
  have b1 : Below B w w1 := by rw [← hw1]; exact (Below.refl _ _).alloc (by omega) _
  have A1 : w1.heap[B]? = some (.cells #[.int .i64 n, .slice a m cap] 27 (0, 0)) := by rw [← hw1, ← hB]; exact heap_alloc_new _ _
  obtain ⟨w2, hw2⟩ : ∃ w2, w1.alloc (.cells #[.int .i64 0, .slice none 0 0] 53) = w2 := ⟨_, rfl⟩
  have z2 : w2.heap.size = B + 2 := by rw [← hw2, World.size_alloc, z1]
  have b2 : Below B w w2 := by rw [← hw2]; exact b1.alloc (by omega) _
  have A2 : w2.heap[B]? = some (.cells #[.int .i64 n, .slice a m cap] 27 (0, 0)) := by rw [← hw2]; exact (heap_alloc_old _ _ (by omega)).trans A1
  have R2 : w2.heap[B + 1]? = some (.cells #[.int .i64 0, .slice none 0 0] 53 (0, 0)) := by rw [← hw2, ← z1]; exact heap_alloc_new _ _
  have c0 : w2.cell? ⟨B, 0, none⟩ = some (.int .i64 n) := by rw [cell_of_row w2 B 0 _ _ _ A2]; rfl
  have c1 : w2.cell? ⟨B, 1, none⟩ = some (.slice a m cap) := by rw [cell_of_row w2 B 1 _ _ _ A2]; rfl
  have HBS := Lib.hid (iBlockSets n xss (by omega) w2 _ (hv.below b2 (by omega)))
  have TB := Lib.hid (ht.below b2 hpos)
  rw [hm, z2] at HBS
  -- storing the zero value, or an incidence
  have ST : Hid (∀ (W : World) (d0 d1 : Value), W.heap[B + 1]? = some (.cells #[.int .i64 0, .slice none 0 0] 53 (0, 0)) →
      ((W.setCell ⟨B + 1, 0, none⟩ d0).setCell ⟨B + 1, 1, none⟩ d1).heap[B + 1]? = some (.cells #[d0, d1] 53 (0, 0))) := fun W d0 d1 h => by
    have h1 := heap_setCell_same W (B + 1) 0 _ _ d0 h
    rw [heap_setCell_same _ (B + 1) 1 _ _ d1 h1]; rfl
  have S2 := Lib.hid R2
  have AA := Lib.hid A2
  have HB := Lib.hid hB
  have B2 := Lib.hid b2
  by_cases k : 128 < m
  · have t1 : decide ((m : Int) > 128) = true := decide_eq_true (by omega)
    have t2 : decide ((128 : Int) < (m : Int)) = true := decide_eq_true (by omega)
    have t3 : decide (128 < m) = true := decide_eq_true k
    have V : Hid (desB n xss = false) := desB_false fun d => by have := d.2.2.1; omega
    have d0 : w2.cell? ⟨B + 1, 0, none⟩ = some (.int .i64 0) := by rw [cell_of_row w2 (B + 1) 0 _ _ _ R2]; rfl
    have d1 : w2.cell? ⟨B + 1, 1, none⟩ = some (.slice none 0 0) := by rw [cell_of_row w2 (B + 1) 1 _ _ _ R2]; rfl
    have f0 := frozen_of_row w2 (B + 1) 0 _ _ R2
    have f1 := frozen_of_row w2 (B + 1) 1 _ _ R2
    clear HBS hv ht A1 A2 R2 b1 b2
    go_enter Tryd.func48, Tryd.ntmps48
    go_wp2
    have R9 := ST.out w2 (.int .i64 0) (.slice none 0 0) S2.out
    obtain ⟨w9, hw9⟩ : ∃ w9, (w2.setCell ⟨B + 1, 0, none⟩ (.int .i64 0)).setCell ⟨B + 1, 1, none⟩ (.slice none 0 0) = w9 := ⟨_, rfl⟩
    have B9 : Below B w w9 := by rw [← hw9]; exact ((B2.out).setCell (p := ⟨B + 1, 0, none⟩) (by simp only; omega) _).setCell (p := ⟨B + 1, 1, none⟩) (by simp only; omega) _
    rw [hw9] at R9 ⊢
    have hld := run_loadVar_row (P := Tryd.prog) _ _ 53 53 #[.int .i64 0, .slice none 0 0] (0, 0) _ R9 Tryd.underlying53 rfl Tryd.infoInc
    refine bodyPost_ret (v := .tuple #[.agg #[.int .i64 0, .slice none 0 0], .bool false]) ?_ rfl ⟨_, by rw [V.out], ?_, by rw [HB.out]; exact B9⟩
    · rw [results_cell_tmp rfl]
      simp [asAddr, Result.andThen, hld]
    · rw [V.out]; exact ⟨fun _ => rfl, fun h => by cases h⟩
  · have t1 : decide ((m : Int) > 128) = false := decide_eq_false (by omega)
    have t2 : decide ((128 : Int) < (m : Int)) = false := decide_eq_false (by omega)
    have t3 : decide (128 < m) = false := decide_eq_false k
    have DE := Lib.hid (fun S hb hS => des_eq (n := n) (xss := xss) (S := S) hb (by omega) hS)
    have DB := Lib.hid (fun h => des_blks (n := n) (xss := xss) h)
    rw [hm] at DE
    obtain ⟨q, hq⟩ : ∃ q, blksB n xss = q := ⟨_, rfl⟩
    rw [hq] at HBS DE DB
    clear hv ht A1 A2 R2 b1 b2 hq
    go_enter Tryd.func48, Tryd.ntmps48
    go_wp2_with fail
    refine HBS.out.mono ?_
    rintro e w3 ⟨z, rfl, hy, hn, b3⟩
    have A3 := (b3.block B (by omega)).trans AA.out
    have R3 := (b3.block (B + 1) (by omega)).trans S2.out
    have B3 : Below B w w3 := B2.out.trans (b3.mono (by omega))
    have s3 : B + 2 ≤ w3.heap.size := by have := b3.size; omega
    have T3 := TB.out.below b3 (by omega)
    clear b3
    cases q with
    | false =>
      obtain ⟨za, zl, zc, rfl⟩ := hn rfl
      have V := Lib.hid (DB.out rfl)
      have d0 : w3.cell? ⟨B + 1, 0, none⟩ = some (.int .i64 0) := by rw [cell_of_row w3 (B + 1) 0 _ _ _ R3]; rfl
      have d1 : w3.cell? ⟨B + 1, 1, none⟩ = some (.slice none 0 0) := by rw [cell_of_row w3 (B + 1) 1 _ _ _ R3]; rfl
      have f0 := frozen_of_row w3 (B + 1) 0 _ _ R3
      have f1 := frozen_of_row w3 (B + 1) 1 _ _ R3
      have S3 := Lib.hid R3
      have HB3 := Lib.hid B3
      clear hy hn A3 R3 B3 T3
      go_wp2
      have R9 := ST.out w3 (.int .i64 0) (.slice none 0 0) S3.out
      obtain ⟨w9, hw9⟩ : ∃ w9, (w3.setCell ⟨B + 1, 0, none⟩ (.int .i64 0)).setCell ⟨B + 1, 1, none⟩ (.slice none 0 0) = w9 := ⟨_, rfl⟩
      have B9 : Below B w w9 := by rw [← hw9]; exact ((HB3.out).setCell (p := ⟨B + 1, 0, none⟩) (by simp only; omega) _).setCell (p := ⟨B + 1, 1, none⟩) (by simp only; omega) _
      rw [hw9] at R9 ⊢
      have hld := run_loadVar_row (P := Tryd.prog) _ _ 53 53 #[.int .i64 0, .slice none 0 0] (0, 0) _ R9 Tryd.underlying53 rfl Tryd.infoInc
      refine bodyPost_ret (v := .tuple #[.agg #[.int .i64 0, .slice none 0 0], .bool false]) ?_ rfl ⟨_, by rw [V.out], ?_, by rw [HB.out]; exact B9⟩
      · rw [results_cell_tmp rfl]
        simp [asAddr, Result.andThen, hld]
      · rw [V.out]; exact ⟨fun _ => rfl, fun h => by cases h⟩
    | true =>
      obtain ⟨g, S, rfl, hg, hU, hS⟩ := hy rfl
      have V0 := Lib.hid (DE.out S rfl hS)
      have cc : Tryd.prog.concrete 51 = true := by kernel_rfl
      have HO := Lib.hid (iorder (.slice (some ⟨g, 0, none⟩) m m) w3 _ _ _ rfl)
      obtain ⟨w4, hw4⟩ : ∃ w4, w3.alloc (.cells #[.slice (some ⟨g, 0, none⟩) m m] 51) = w4 := ⟨_, rfl⟩
      obtain ⟨N, hN⟩ : ∃ N, w3.heap.size = N := ⟨_, rfl⟩
      have lg : g < N := by rw [← hN]; exact hU.lt
      have b4 : Below N w3 w4 := by rw [← hw4, ← hN]; exact (Below.refl _ _).alloc (Nat.le_refl _) _
      have z4 : w4.heap.size = N + 1 := by rw [← hw4, World.size_alloc, hN]
      have c4 : w4.cell? ⟨N, 0, none⟩ = some (.slice (some ⟨g, 0, none⟩) m m) := by
        have h : w4.heap[N]? = some (.cells #[.slice (some ⟨g, 0, none⟩) m m] 51 (0, 0)) := by rw [← hw4, ← hN]; exact heap_alloc_new _ _
        rw [cell_of_row w4 N 0 _ _ _ h]; rfl
      have U4 := hU.below b4 lg
      have HSO := Lib.hid (isorted N g m S (by omega) w4 c4 U4 (fun i hi => (hS i hi).1) (T3.below b4 (by omega)))
      have A4 := (b4.block B (by omega)).trans A3
      have R4 := (b4.block (B + 1) (by omega)).trans R3
      have B4 : Below B w w4 := B3.trans (b4.mono (by omega))
      have SS := Lib.hid hS
      have GG := Lib.hid hg
      rw [hN, hw4] at HO
      rw [V0.out] at HSO
      rw [z4] at HSO
      clear hy hn A3 R3 B3 T3 hU hS hw4 hN b4
      go_wp2_with fail
      refine HO.out.mono ?_
      rintro e w5 ⟨rfl, rfl⟩
      go_wp2_with fail
      refine HSO.out.mono ?_
      rintro e w6 ⟨rfl, b6⟩
      have A6 := (b6.block B (by omega)).trans A4
      have R6 := (b6.block (B + 1) (by omega)).trans R4
      have U6 := Lib.hid (U4.below b6 (by omega))
      have B6 : Hid (Below B w w6) := B4.trans (b6.mono (by omega))
      have c60 : w6.cell? ⟨B, 0, none⟩ = some (.int .i64 n) := by rw [cell_of_row w6 B 0 _ _ _ A6]; rfl
      have d0 : w6.cell? ⟨B + 1, 0, none⟩ = some (.int .i64 0) := by rw [cell_of_row w6 (B + 1) 0 _ _ _ R6]; rfl
      have d1 : w6.cell? ⟨B + 1, 1, none⟩ = some (.slice none 0 0) := by rw [cell_of_row w6 (B + 1) 1 _ _ _ R6]; rfl
      have f0 := frozen_of_row w6 (B + 1) 0 _ _ R6
      have f1 := frozen_of_row w6 (B + 1) 1 _ _ R6
      have S6 := Lib.hid R6
      obtain ⟨r, hr⟩ : ∃ r, desB n xss = r := ⟨_, rfl⟩
      have V := Lib.hid hr
      rw [hr]
      clear A6 R6 A4 R4 B4 b6 c4 U4 hr HSO HO
      cases r with
      | false =>
        go_wp2
        have R9 := ST.out w6 (.int .i64 0) (.slice none 0 0) S6.out
        obtain ⟨w9, hw9⟩ : ∃ w9, (w6.setCell ⟨B + 1, 0, none⟩ (.int .i64 0)).setCell ⟨B + 1, 1, none⟩ (.slice none 0 0) = w9 := ⟨_, rfl⟩
        have B9 : Below B w w9 := by rw [← hw9]; exact ((B6.out).setCell (p := ⟨B + 1, 0, none⟩) (by simp only; omega) _).setCell (p := ⟨B + 1, 1, none⟩) (by simp only; omega) _
        rw [hw9] at R9 ⊢
        have hld := run_loadVar_row (P := Tryd.prog) _ _ 53 53 #[.int .i64 0, .slice none 0 0] (0, 0) _ R9 Tryd.underlying53 rfl Tryd.infoInc
        refine bodyPost_ret (v := .tuple #[.agg #[.int .i64 0, .slice none 0 0], .bool false]) ?_ rfl ⟨_, by rw [V.out], ?_, by rw [HB.out]; exact B9⟩
        · rw [results_cell_tmp rfl]
          simp [asAddr, Result.andThen, hld]
        · rw [V.out]; exact ⟨fun _ => rfl, fun h => by cases h⟩
      | true =>
        go_wp2
        have R9 := ST.out w6 (.int .i64 n) (.slice (some ⟨g, 0, none⟩) m m) S6.out
        obtain ⟨w9, hw9⟩ : ∃ w9, (w6.setCell ⟨B + 1, 0, none⟩ (.int .i64 n)).setCell ⟨B + 1, 1, none⟩ (.slice (some ⟨g, 0, none⟩) m m) = w9 := ⟨_, rfl⟩
        have B9 : Below B w w9 := by rw [← hw9]; exact ((B6.out).setCell (p := ⟨B + 1, 0, none⟩) (by simp only; omega) _).setCell (p := ⟨B + 1, 1, none⟩) (by simp only; omega) _
        rw [hw9] at R9 ⊢
        have hld := run_loadVar_row (P := Tryd.prog) _ _ 53 53 #[.int .i64 n, .slice (some ⟨g, 0, none⟩) m m] (0, 0) _ R9 Tryd.underlying53 rfl Tryd.infoInc
        refine bodyPost_ret (v := .tuple #[.agg #[.int .i64 n, .slice (some ⟨g, 0, none⟩) m m], .bool true]) ?_ rfl ⟨_, by rw [V.out], ?_, by rw [HB.out]; exact B9⟩
        · rw [results_cell_tmp rfl]
          simp [asAddr, Result.andThen, hld]
        · rw [V.out]; refine ⟨fun h => (by cases h), fun _ => ⟨g, S, by rw [hm], by rw [HB.out]; have := GG.out; omega, ?_, by rw [hm]; exact SS.out⟩⟩
          rw [hm, ← hw9]
          unfold Ub
          rw [Below.heap_setCell _ _ _ g (by have := GG.out; simp only; omega), Below.heap_setCell _ _ _ g (by have := GG.out; simp only; omega)]
          exact U6.out
end
end Go.Proofs.YtdhlnagkhkcoiaaDoor
