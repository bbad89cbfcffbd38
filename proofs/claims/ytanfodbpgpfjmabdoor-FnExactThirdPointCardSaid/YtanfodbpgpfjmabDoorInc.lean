/- Blocks as sets of bits (blockSetsOf), and a design in the form that computes (incidenceOf). -/
import Derived.Test.YtanfodbpgpfjmabDoorStc
import Derived.Test.YtanfodbpgpfjmabDoorRowc
namespace Go.Proofs.YtanfodbpgpfjmabDoor
open Go.RowKit Go.Shelf
set_option linter.unusedVariables false

theorem RowsAt.rowsIn {w : World} {v : Value} {xss : List (List Int)} (h : RowsAt w v xss) : ∃ a cap, v = .slice a xss.length cap ∧ ∀ W, Below w.heap.size w W → ∀ j, j < xss.length → ∃ g off u, a = some ⟨g, off, none⟩ ∧ W.cell? ⟨g, off + j, none⟩ = some u ∧ IntsAt W u (xss.getD j []) := by
  obtain ⟨a, cap, e, -⟩ := h.shape
  refine ⟨a, cap, e, fun W hW j hj => ?_⟩
  obtain ⟨a', cap', e', K⟩ := (h.below hW (Nat.le_refl _)).shape
  rw [e] at e'
  simp only [Value.slice.injEq] at e'
  obtain ⟨rfl, -, -⟩ := e'
  exact K j hj
/-- All lists are blocks of n points. -/
def Blks (n : Int) (xss : List (List Int)) : Prop := 1 ≤ n ∧ n ≤ 32 ∧ ∀ i, i < xss.length → isBlk n (xss.getD i [])
noncomputable def blksB (n : Int) (xss : List (List Int)) : Bool := @decide (Blks n xss) (Classical.propDecidable _)
theorem blksB_true {n : Int} {xss : List (List Int)} (h : Blks n xss) : blksB n xss = true := @decide_eq_true _ (Classical.propDecidable _) h
theorem blksB_false {n : Int} {xss : List (List Int)} (h : ¬ Blks n xss) : blksB n xss = false := @decide_eq_false _ (Classical.propDecidable _) h
theorem of_blksB {n : Int} {xss : List (List Int)} (h : blksB n xss = true) : Blks n xss := @of_decide_eq_true _ (Classical.propDecidable _) h
theorem not_blksB {n : Int} {xss : List (List Int)} (h : blksB n xss = false) : ¬ Blks n xss := fun hd => by rw [blksB_true hd] at h; cases h
/-- The sets have the bits of the blocks. -/
def SetsF (xss : List (List Int)) (k : Nat) (S : Nat → Nat) : Prop := ∀ i, i < k → S i < 4294967296 ∧ ∀ z : Nat, (S i).testBit z = decide ((z : Int) ∈ xss.getD i [])
theorem rises_wider {lo hi hi' : Int} {xs : List Int} (h : Rises lo hi xs) (e : hi ≤ hi') : Rises lo hi' xs := fun i hi => by
  obtain ⟨a, b, c⟩ := h i hi
  exact ⟨a, by omega, c⟩
theorem blk_valid32 {n : Int} {xs : List Int} (h1 : n ≤ 32) (h : isBlk n xs) : validSet xs 32 = true := by
  unfold validSet
  rw [risesB_true (rises_wider h.2 (by omega))]; rfl
theorem valid_blk {n : Int} {xs : List Int} (h1 : 1 ≤ n) (h2 : n ≤ 32) : validSet xs n = true ↔ Rises 0 (n - 1) xs := by
  unfold validSet
  rw [decide_eq_true (show 0 ≤ n by omega), decide_eq_true h2, Bool.true_and, Bool.true_and]
  exact ⟨of_risesB, risesB_true⟩

set_option maxRecDepth 100000 in
set_option maxHeartbeats 4000000 in
theorem iBlockSets (n : Int) (xss : List (List Int)) (hm : xss.length ≤ 1048576) (w : World) (v : Value) (hv : RowsAt w v xss) :
    Calls Tryd.prog 52 #[.int .i64 n, v] w fun e w' => ∃ z, e = .returned (.tuple #[z, .bool (blksB n xss)]) ∧ (blksB n xss = true → ∃ g S, z = .slice (some ⟨g, 0, none⟩) xss.length xss.length ∧ w.heap.size ≤ g ∧ Ub w' g xss.length S ∧ SetsF xss xss.length S) ∧ (blksB n xss = false → ∃ a l c, z = .slice a l c) ∧ Below w.heap.size w w' := by
  by_cases h : 1 ≤ n ∧ n ≤ 32
  · obtain ⟨h1, h2⟩ := h
    obtain ⟨a, cap, rfl, K⟩ := hv.rowsIn
    have YES : Hid ((∀ i, i < xss.length → isBlk n (xss.getD i [])) → blksB n xss = true) := fun h => blksB_true ⟨h1, h2, h⟩
    have NO : Hid (∀ i, i < xss.length → ¬ isBlk n (xss.getD i []) → blksB n xss = false) := fun i hi h => blksB_false fun k => h (k.2.2 i hi)
    obtain ⟨V, hV⟩ : ∃ V, blksB n xss = V := ⟨_, rfl⟩
    rw [hV] at YES NO ⊢
    obtain ⟨m, hmm⟩ : ∃ m, xss.length = m := ⟨_, rfl⟩
    rw [hmm] at YES NO K hm ⊢
    have hmk := fun W : World => run_make_row' (P := Tryd.prog) 42 87 (.int .u32 0) 4 Tryd.underlying42 Tryd.infoSet rfl .i64 .i64 m (by omega) (by omega) W
    have V1 : Hid (∀ xs : List Int, validSet xs n = true ↔ Rises 0 (n - 1) xs) := fun xs => valid_blk h1 h2
    have V2 : Hid (∀ xs : List Int, isBlk n xs → validSet xs 32 = true) := fun xs h => blk_valid32 h2 h
    obtain ⟨B, hB⟩ : ∃ B, w.heap.size = B := ⟨_, rfl⟩
    obtain ⟨w1, hw1⟩ : ∃ w1, w.alloc (.cells (madeCells #[.int .u32 0] m) 87) = w1 := ⟨_, rfl⟩
    have b1 : Below B w w1 := by rw [← hw1]; exact (Below.refl _ _).alloc (by omega) _
    have U1 : Hid (Ub w1 B m (fun _ => 0)) := by unfold Hid Ub; rw [← hw1, made_uar, ← hB]; exact heap_alloc_new _ _
    have B1 := Lib.hid b1
    rw [hB] at K ⊢
    have HK := Lib.hid K
    have HVS := Lib.hid (fun W u (xs : List Int) (hu : IntsAt W u xs) => ivalid W u xs n hu)
    have HPS := Lib.hid (fun W u (xs : List Int) (hu : IntsAt W u xs) => ipsOf xs u W hu)
    have q1 : decide (n < 1) = false := decide_eq_false (by omega)
    have q2 : decide (n > 32) = false := decide_eq_false (by omega)
    have q3 : decide (32 < n) = false := decide_eq_false (by omega)
    clear hv K hV b1 h1 h2
    go_enter Tryd.func52, Tryd.ntmps52
    go_wp2
    try rw [hw1]
    try rw [hB]
    clear hw1 hmk hB
    go_loopw [20] (fun i wr => ∃ j : Nat, j ≤ m ∧ i = .int .i64 j ∧ Hid (∀ i, i < j → isBlk n (xss.getD i [])) ∧ (∃ S, Hid (Ub wr B m S) ∧ Hid (SetsF xss j S)) ∧ Hid (Below B w wr)) (fun i _ => m - (intOf i).toNat)
    case atStart => exact ⟨0, by omega, rfl, fun i h => by omega, ⟨_, U1, fun i h => by omega⟩, B1⟩
    case round =>
      obtain ⟨j, hj, rfl, hP, ⟨S, hU, hS⟩, hBl⟩ := hrel
      by_cases c : j < m
      · have k1 : decide (j < m) = true := by simpa using c
        have k1' : decide ((j : Int) < (m : Int)) = true := decide_eq_true (by omega)
        have w3 := IntWalk.i64_in ((j : Int) + 1) (by omega)
        have j0 : (0 : Int) ≤ (j : Int) := by omega
        have j1 : (j : Int) < (m : Int) := by omega
        obtain ⟨g, off, u, rfl, hu, hi⟩ := HK.out wr hBl.out j c
        have HV := Lib.hid (HVS.out wr u _ hi)
        have HP := Lib.hid (HPS.out wr u _ hi)
        obtain ⟨r, hr⟩ : ∃ r, xss.getD j [] = r := ⟨_, rfl⟩
        obtain ⟨ua, uc, rfl, -, -⟩ := hi.shape
        have NJ := Lib.hid (NO.out j c)
        rw [hr] at HV HP NJ hu
        obtain ⟨l, hl⟩ : ∃ l, r.length = l := ⟨_, rfl⟩
        rw [hr, hl] at hi
        rw [hl] at HV HP hu
        by_cases z : l = 0
        · have t1 : ((l : Int) == 0) = true := by simp [z]
          have t2 : (l == 0) = true := by simp [z]
          have V3 := Lib.hid (NJ.out (fun h => by have := h.1; omega))
          clear hi
          go_wp2
          go_ret2
          exact ⟨_, by rw [V3.out]; rfl, fun h => (by rw [V3.out] at h; cases h), fun _ => ⟨_, _, _, rfl⟩, hBl.out⟩
        · have t1 : ((l : Int) == 0) = false := by simp [z]
          have t2 : (l == 0) = false := by simp [z]
          cases hq : validSet r n with
          | false =>
            have V3 := Lib.hid (NJ.out (fun h => by have := (V1.out r).2 h.2; rw [hq] at this; cases this))
            rw [hq] at HV
            clear hq hi
            go_wp2_with fail
            refine HV.out.mono ?_
            rintro e w2 ⟨rfl, rfl⟩
            go_wp2
            go_ret2
            exact ⟨_, by rw [V3.out]; rfl, fun h => (by rw [V3.out] at h; cases h), fun _ => ⟨_, _, _, rfl⟩, hBl.out⟩
          | true =>
            have bk : isBlk n r := ⟨by omega, (V1.out r).1 hq⟩
            have v32 := V2.out r bk
            rw [hq] at HV
            rw [v32] at HP
            have BK : Hid (∀ i, i < j + 1 → isBlk n (xss.getD i [])) := fun i hi => by
              by_cases e : i = j
              · rw [e, hr]; exact bk
              · exact hP.out i (by omega)
            have old := hU.out.cell j c
            have fz := hU.out.frozen j
            have HR := Lib.hid hr
            clear hq hi v32 bk hr
            go_wp2_with fail
            refine HV.out.mono ?_
            rintro e w2 ⟨rfl, rfl⟩
            go_wp2_with fail
            refine HP.out.mono ?_
            rintro e w3 ⟨s, rfl, hs, rfl⟩
            have P := hs.1 rfl
            have U2 := Lib.hid (hU.out.set j s)
            have S2 : Hid (SetsF xss (j + 1) (updN S j s)) := fun i hi => by
              unfold updN
              by_cases e : i = j
              · rw [if_pos e, e, HR.out]; exact P
              · rw [if_neg e]; exact hS.out i (by omega)
            have B2 : Hid (Below B w (wr.setCell ⟨B, j, none⟩ (.int .u32 s))) := hBl.out.setCell (p := ⟨B, j, none⟩) (Nat.le_refl _) _
            clear hs P
            go_wp2
            go_roundw
            case rel => exact ⟨j + 1, by omega, by go_num, BK, ⟨_, U2, S2⟩, B2⟩
            case measure => simp [intOf]; omega
      · have k1 : decide (j < m) = false := by simpa using c
        have k1' : decide ((j : Int) < (m : Int)) = false := decide_eq_false (by omega)
        obtain rfl : j = m := by omega
        have V3 := Lib.hid (YES.out hP.out)
        go_wp2
        go_ret2
        exact ⟨_, by rw [V3.out]; rfl, fun _ => ⟨B, S, rfl, Nat.le_refl _, hU.out, hS.out⟩, fun h => (by rw [V3.out] at h; cases h), hBl.out⟩
  · have V : Hid (blksB n xss = false) := blksB_false fun k => h ⟨k.1, k.2.1⟩
    obtain ⟨a, cap, rfl, -⟩ := hv.shape
    by_cases h1 : n < 1
    · have q1 : decide (n < 1) = true := decide_eq_true h1
      clear h hv
      go_enter Tryd.func52, Tryd.ntmps52
      go_wp2
      go_ret2
      exact ⟨_, by rw [V.out]; rfl, fun h => (by rw [V.out] at h; cases h), fun _ => ⟨_, _, _, rfl⟩, Below.refl _ _⟩
    · have q1 : decide (n < 1) = false := decide_eq_false h1
      have q2 : decide (n > 32) = true := decide_eq_true (by omega)
      have q3 : decide (32 < n) = true := decide_eq_true (by omega)
      clear h hv
      go_enter Tryd.func52, Tryd.ntmps52
      go_wp2
      go_ret2
      exact ⟨_, by rw [V.out]; rfl, fun h => (by rw [V.out] at h; cases h), fun _ => ⟨_, _, _, rfl⟩, Below.refl _ _⟩
end Go.Proofs.YtanfodbpgpfjmabDoor
