/- A field in the form that computes. -/
import Derived.Test.YtmlcdbjibngnkaaFz
import Derived.Test.YtmlcdbjibngnkaaArg
import Derived.Laws.ResultCell
import Derived.Great.BuildSlice
import Derived.Great.Walk
namespace Go.Proofs.Ytmlcdbjibngnkaa
open Go.RowKit
set_option linter.unusedVariables false

def cofs (xs : List Int) : Co := fun i => xs.getD i 0
/-- A valid field. -/
def FOk (p k : Nat) (xs : List Int) : Prop := isPr p = true ∧ 1 ≤ k ∧ p ^ k ≤ 64 ∧ xs.length = k + 1 ∧ xs.getD k 0 = 1 ∧ (∀ i, i < k + 1 → 0 ≤ xs.getD i 0 ∧ xs.getD i 0 < p) ∧ irrB p k (cofs xs) = true
noncomputable def fok (P K : Int) (xs : List Int) : Bool := @decide (0 ≤ P ∧ 0 ≤ K ∧ FOk P.toNat K.toNat xs) (Classical.propDecidable _)
def zff : Array Value := #[.int .i64 0, .int .i64 0, .int .i64 0, .int .i64 0, .int .i64 0, .int .i64 0, .int .i64 0, .int .i64 0, .int .i64 0, .int .i64 0, .int .i64 0, .int .i64 0, .int .i64 0, .int .i64 0, .int .i64 0]
def ffv (P K s : Int) (c : Co) : Array Value := #[.int .i64 P, .int .i64 K, .int .i64 s, .int .i64 (c 0), .int .i64 (c 1), .int .i64 (c 2), .int .i64 (c 3), .int .i64 (c 4), .int .i64 (c 5), .int .i64 (c 6), .int .i64 (c 7), .int .i64 (c 8), .int .i64 (c 9), .int .i64 (c 10), .int .i64 (c 11)]
theorem zff_one : zff.all (·.oneCell') = true := by
  rw [Array.all_eq_true_iff_forall_mem]
  intro v hv
  simp [zff] at hv
  subst hv
  rfl
theorem ffv_one (P K s : Int) (c : Co) : (ffv P K s c).all (·.oneCell') = true := by
  rw [Array.all_eq_true_iff_forall_mem]
  intro v hv
  simp [ffv] at hv
  rcases hv with rfl | rfl | rfl | rfl | rfl | rfl | rfl | rfl | rfl | rfl | rfl | rfl | rfl | rfl | rfl <;> rfl
theorem Try.builtFf (P K s : Int) (c : Co) : Try.prog.built 57 [(0, .int .i64 P), (1, .int .i64 K), (2, .int .i64 s), (3, .agg (arr 12 c))] = some (ffv P K s c) := by kernel_rfl
theorem Try.infoFf : (Try.prog.info? 57).map (·.size) = some 15 := by kernel_rfl

theorem fok_def (P K : Int) (xs : List Int) : fok P K xs = true ↔ 0 ≤ P ∧ 0 ≤ K ∧ FOk P.toNat K.toNat xs := by
  unfold fok
  exact @decide_eq_true_iff _ (Classical.propDecidable _)
theorem fok_iff (p k : Nat) (xs : List Int) : fok p k xs = true ↔ FOk p k xs := by
  rw [fok_def]
  simp only [Int.toNat_natCast]
  exact ⟨fun h => h.2.2, fun h => ⟨by omega, by omega, h⟩⟩
theorem FOk.bd {p k : Nat} {xs : List Int} (h : FOk p k xs) : 2 ≤ p ∧ p ≤ 64 ∧ k ≤ 6 := by
  obtain ⟨h1, h2, h3, -⟩ := h
  have a := isPr_bd h1
  have b : p ^ 1 ≤ p ^ k := Nat.pow_le_pow_right (by omega) h2
  rw [Nat.pow_one] at b
  refine ⟨by omega, by omega, ?_⟩
  by_cases h6 : k ≤ 6
  · exact h6
  · have a1 : 2 ^ 7 ≤ p ^ k := Nat.le_trans (Nat.pow_le_pow_right (by omega) (by omega)) (Nat.pow_le_pow_left (by omega) _)
    omega
theorem FOk.rd {p k : Nat} {xs : List Int} (h : FOk p k xs) : Rd p (k + 1) (cofs xs) := by
  have hb := h.bd
  obtain ⟨-, -, -, h4, -, h6, -⟩ := h
  intro i
  unfold cofs
  by_cases hi : i < k + 1
  · exact ⟨(h6 i hi).1, (h6 i hi).2, fun q => by omega⟩
  · have : xs.getD i 0 = 0 := by
      rw [List.getD_eq_getElem?_getD, List.getElem?_eq_none (by omega)]; rfl
    rw [this]
    exact ⟨Int.le_refl _, by omega, fun _ => rfl⟩
theorem fok_int {P K : Int} {xs : List Int} (h : fok P K xs = true) : ∃ p k : Nat, P = p ∧ K = k ∧ FOk p k xs := by
  rw [fok_def] at h
  exact ⟨P.toNat, K.toNat, by omega, by omega, h.2.2⟩
/-- What finiteFieldOf answers. -/
noncomputable def ffAns (P K : Int) (xs : List Int) : Value := .tuple #[.agg (if fok P K xs = true then ffv P K (fsz P K) (cofs xs) else zff), .bool (fok P K xs)]
theorem ffAns_no {P K : Int} {xs : List Int} (h : ¬ fok P K xs = true) : ffAns P K xs = .tuple #[.agg zff, .bool false] := by
  unfold ffAns
  rw [if_neg h]
  rw [Bool.not_eq_true] at h
  rw [h]
theorem ffAns_yes {P K : Int} {xs : List Int} (h : fok P K xs = true) : ffAns P K xs = .tuple #[.agg (ffv P K (fsz P K) (cofs xs)), .bool true] := by
  unfold ffAns
  rw [if_pos h, h]

/-- The field, its slice a value v. -/
def Fd (w : World) (g : Nat) (P K : Int) (v : Value) : Prop := w.heap[g]? = some (.cells #[.int .i64 P, .int .i64 K, v] 25 (0, 0))
theorem Fd.cells {w : World} {g : Nat} {P K : Int} {v : Value} (h : Fd w g P K v) : w.cell? ⟨g, 0, none⟩ = some (.int .i64 P) ∧ w.cell? ⟨g, 1, none⟩ = some (.int .i64 K) ∧ w.cell? ⟨g, 2, none⟩ = some v :=
  ⟨by rw [cell_of_row w g 0 _ _ _ h]; rfl, by rw [cell_of_row w g 1 _ _ _ h]; rfl, by rw [cell_of_row w g 2 _ _ _ h]; rfl⟩
theorem Fd.lt {w : World} {g : Nat} {P K : Int} {v : Value} (h : Fd w g P K v) : g < w.heap.size := by
  unfold Fd at h; exact (Array.getElem?_eq_some_iff.1 h).1
theorem Fd.below {w w' : World} {g B : Nat} {P K : Int} {v : Value} (h : Fd w g P K v) (hb : Below B w w') (hg : g < B) : Fd w' g P K v := (hb.block g hg).trans h
theorem Fd.alloc {w : World} {g : Nat} {P K : Int} {v : Value} (h : Fd w g P K v) (o : Obj) : Fd (w.alloc o) g P K v := (heap_alloc_old _ o h.lt).trans h
theorem Fd.other {w : World} {g k : Nat} {P K : Int} {v : Value} (h : Fd w g P K v) (hne : g ≠ k) (i : Nat) (u : Value) : Fd (w.setCell ⟨k, i, none⟩ u) g P K v := (heap_setCell_other w ⟨k, i, none⟩ g u hne).trans h
theorem Fd.new (w : World) (P K : Int) (v : Value) : Fd (w.alloc (.cells #[.int .i64 P, .int .i64 K, v] 25)) w.heap.size P K v := heap_alloc_new w _

set_option maxHeartbeats 2000000 in
theorem ffOf (P K : Int) (xs : List Int) (v : Value) (w : World) (hv : IntsAt w v xs) :
    Calls Try.prog 59 #[.agg #[.int .i64 P, .int .i64 K, v]] w fun e w' => e = .returned (ffAns P K xs) ∧ Below w.heap.size w w' := by
  have HZ := Lib.hid (fun W : World => sizeOf_any P K W)
  obtain ⟨n, hn⟩ : ∃ n, xs.length = n := ⟨_, rfl⟩
  obtain ⟨a, cap, rfl⟩ : ∃ a cap, v = .slice a n cap := by
    rcases hv.2 with ⟨rfl, a, cap, rfl⟩ | ⟨g, off, cap, rfl, _⟩
    · exact ⟨a, cap, by rw [← hn]; rfl⟩
    · exact ⟨_, cap, by rw [hn]⟩
  have hl := hv.1
  have HV := Lib.hid hv
  rw [hn] at hl
  have HN := Lib.hid hn
  have F0 : Hid (Fd ((w.alloc (.cells #[.int .i64 P, .int .i64 K, .slice a n cap] 25)).alloc (.cells #[.int .i64 0, .int .i64 0, .int .i64 0, .int .i64 0, .int .i64 0, .int .i64 0, .int .i64 0, .int .i64 0, .int .i64 0, .int .i64 0, .int .i64 0, .int .i64 0, .int .i64 0, .int .i64 0, .int .i64 0] 57)) w.heap.size P K (.slice a n cap)) := (Fd.new w P K _).alloc _
  have Z0 : Hid (((w.alloc (.cells #[.int .i64 P, .int .i64 K, .slice a n cap] 25)).alloc (.cells #[.int .i64 0, .int .i64 0, .int .i64 0, .int .i64 0, .int .i64 0, .int .i64 0, .int .i64 0, .int .i64 0, .int .i64 0, .int .i64 0, .int .i64 0, .int .i64 0, .int .i64 0, .int .i64 0, .int .i64 0] 57)).heap[w.heap.size + 1]? = some (.cells zff 57 (0, 0))) := heap_alloc2_new w _ _
  have B0 : Hid (Below w.heap.size w ((w.alloc (.cells #[.int .i64 P, .int .i64 K, .slice a n cap] 25)).alloc (.cells #[.int .i64 0, .int .i64 0, .int .i64 0, .int .i64 0, .int .i64 0, .int .i64 0, .int .i64 0, .int .i64 0, .int .i64 0, .int .i64 0, .int .i64 0, .int .i64 0, .int .i64 0, .int .i64 0, .int .i64 0] 57))) := ((Below.refl _ _).alloc (Nat.le_refl _) _).alloc (by rw [World.size_alloc]; omega) _
  have S0 : Hid (((w.alloc (.cells #[.int .i64 P, .int .i64 K, .slice a n cap] 25)).alloc (.cells #[.int .i64 0, .int .i64 0, .int .i64 0, .int .i64 0, .int .i64 0, .int .i64 0, .int .i64 0, .int .i64 0, .int .i64 0, .int .i64 0, .int .i64 0, .int .i64 0, .int .i64 0, .int .i64 0, .int .i64 0] 57)).heap.size = w.heap.size + 2) := by unfold Hid; simp only [World.size_alloc]
  clear hv hn
  obtain ⟨z, hz⟩ : ∃ z, fsz P K = z := ⟨_, rfl⟩
  have HZ' := Lib.hid hz
  rw [hz] at HZ
  clear hz
  go_enter Try.func59, Try.ntmps59
  go_upto_region 2 with (go_at_call 91; refine (HZ.out _).mono ?_; rintro e w1 ⟨rfl, hb1⟩)
  have F1 : Hid (Fd w1 w.heap.size P K (.slice a n cap)) := F0.out.below hb1 (by rw [S0.out]; omega)
  have Z1 : Hid (w1.heap[w.heap.size + 1]? = some (.cells zff 57 (0, 0))) := (hb1.block _ (by rw [S0.out]; omega)).trans Z0.out
  have B1 : Hid (Below w.heap.size w w1) := B0.out.trans (hb1.mono (by rw [S0.out]; omega))
  have S1 : Hid (w.heap.size + 2 ≤ w1.heap.size) := by have := hb1.size; rw [S0.out] at this; exact this
  have hv1 : Hid (IntsAt w1 (.slice a n cap) xs) := IntsAt.below HV.out B1.out (Nat.le_refl _)
  clear F0 Z0 B0 hb1 S0 HV
  obtain ⟨c0, c1, c2⟩ := F1.out.cells
  by_cases hz0 : z = 0
  · subst hz0
    have E : Hid (¬ fok P K xs = true) := by
      intro h
      obtain ⟨p, k, rfl, rfl, hf⟩ := fok_int h
      have e := HZ'.out
      unfold fsz at e
      rw [if_pos ⟨hf.1, by have := hf.2.1; omega, by simpa using hf.2.2.1⟩] at e
      have := Nat.pow_pos (n := k) (show 0 < p by have := hf.bd; omega)
      simp only [Int.toNat_natCast] at e
      omega
    go_upto_region 3 with fail
    refine wp_region_list ?_
    refine wpList_buildTo rfl 57 #[] rfl (some 34) rfl zff (by kernel_rfl) ?_
    refine wpList_store_row rfl 57 (.tmp 2) (.tmp 34) rfl _ zff rfl rfl _ _ Z1.out Try.infoFf rfl zff_one ?_
    go_wp2
    refine bodyPost_ret (v := .tuple #[.agg zff, .bool false]) ?_ rfl ⟨by rw [ffAns_no E.out], below_setRow B1.out (by omega) _⟩
    have hld := run_loadVar_row (P := Try.prog) _ _ 57 57 zff (0, 0) _ (setRow_heap _ _ zff zff _ _ Z1.out) Try.underlying57 rfl Try.infoFf
    rw [results_cell_tmp rfl]
    simp [asAddr, Result.andThen, hld]
  · have hq : isPr P = true ∧ 1 ≤ K ∧ P.toNat ^ K.toNat ≤ 64 ∧ z = ((P.toNat ^ K.toNat : Nat) : Int) := by
      have e := HZ'.out
      unfold fsz at e
      split at e
      · rename_i h; exact ⟨h.1, h.2.1, h.2.2, e.symm⟩
      · exact absurd e.symm hz0
    obtain ⟨q1, q2, q3, q4⟩ := hq
    obtain ⟨p, rfl⟩ : ∃ p : Nat, P = p := ⟨P.toNat, by have := isPr_bd q1; omega⟩
    obtain ⟨k, rfl⟩ : ∃ k : Nat, K = k := ⟨K.toNat, by omega⟩
    simp only [Int.toNat_natCast] at q3 q4
    have hpb : 2 ≤ p ∧ p ≤ 64 ∧ k ≤ 6 := by
      have a := isPr_bd q1
      have b : p ^ 1 ≤ p ^ k := Nat.pow_le_pow_right (by omega) (by omega)
      rw [Nat.pow_one] at b
      refine ⟨by omega, by omega, ?_⟩
      by_cases h6 : k ≤ 6
      · exact h6
      · have a1 : 2 ^ 7 ≤ p ^ k := Nat.le_trans (Nat.pow_le_pow_right (by omega) (by omega)) (Nat.pow_le_pow_left (by omega) _)
        omega
    obtain ⟨p2, p64, k6⟩ := hpb
    have zT : (z == 0) = false := by simpa using hz0
    have Q1 := Lib.hid q1
    have Q3 := Lib.hid q3
    have Q4 := Lib.hid q4
    clear q1 q3 q4 hz0
    by_cases hnk : n = k + 1
    · subst hnk
      have nT : (((k + 1 : Nat) : Int) != (k : Int) + 1) = false := by simp
      obtain ⟨g, off, rfl, hc⟩ : ∃ g off, a = some ⟨g, off, none⟩ ∧ ∀ j, j < k + 1 → w1.cell? ⟨g, off + j, none⟩ = some (.int .i64 (xs.getD j 0)) := by
        rcases hv1.out.2 with ⟨rfl, _⟩ | ⟨g, off, cap', e, hc⟩
        · have := HN.out; simp at this
        · simp only [Value.slice.injEq] at e
          exact ⟨g, off, e.1, fun j hj => hc j (by rw [HN.out]; exact hj)⟩
      have HC := Lib.hid hc
      clear hc hv1
      obtain ⟨x, hx⟩ : ∃ x, xs.getD k 0 = x := ⟨_, rfl⟩
      have cx := HC.out k (by omega)
      rw [hx] at cx
      have i1 : (0 : Int) ≤ (k : Int) := by omega
      have i2 : (k : Int) < ((k + 1 : Nat) : Int) := by omega
      have HX := Lib.hid hx
      clear hx
      by_cases hx1 : x = 1
      · subst hx1
        have hg1 : g < w1.heap.size := World.block_lt_of_cell? w1 _ cx
        have A1 : Hid (At (w1.alloc (.cells #[.int .i64 0, .int .i64 0, .int .i64 0, .int .i64 0, .int .i64 0, .int .i64 0, .int .i64 0, .int .i64 0, .int .i64 0, .int .i64 0, .int .i64 0, .int .i64 0] 55)) w1.heap.size (fun _ => 0)) := At.zero (heap_alloc_new _ _)
        have W1 : Hid (Below w1.heap.size w1 (w1.alloc (.cells #[.int .i64 0, .int .i64 0, .int .i64 0, .int .i64 0, .int .i64 0, .int .i64 0, .int .i64 0, .int .i64 0, .int .i64 0, .int .i64 0, .int .i64 0, .int .i64 0] 55))) := (Below.refl _ _).alloc (Nat.le_refl _) _
        have hS1 := S1.out
        go_upto_region 5 with fail
        have FW : Hid (Fd (w1.alloc (.cells #[.int .i64 0, .int .i64 0, .int .i64 0, .int .i64 0, .int .i64 0, .int .i64 0, .int .i64 0, .int .i64 0, .int .i64 0, .int .i64 0, .int .i64 0, .int .i64 0] 55)) w.heap.size p k (.slice (some ⟨g, off, none⟩) (k + 1) cap)) := F1.out.alloc _
        obtain ⟨W, hW⟩ : ∃ W, w1.alloc (.cells #[.int .i64 0, .int .i64 0, .int .i64 0, .int .i64 0, .int .i64 0, .int .i64 0, .int .i64 0, .int .i64 0, .int .i64 0, .int .i64 0, .int .i64 0, .int .i64 0] 55) = W := ⟨_, rfl⟩
        rw [hW] at A1 W1 FW ⊢
        obtain ⟨e0, e1, e2⟩ := FW.out.cells
        clear hW
        go_wp2
        go_loopw [38] (fun i wr => ∃ j : Nat, j ≤ k + 1 ∧ i = .int .i64 j ∧ Hid (∀ i, i < j → 0 ≤ xs.getD i 0 ∧ xs.getD i 0 < p) ∧ Hid (At wr w1.heap.size (fun i => if i < j then xs.getD i 0 else 0)) ∧ Hid (Below w1.heap.size w1 wr)) (fun i _ => k + 1 - (intOf i).toNat)
        case atStart => exact ⟨0, by omega, rfl, fun i hi => by omega, A1.out.congr (fun i _ => by rw [if_neg (by omega)]), W1⟩
        case round =>
          obtain ⟨j, hj, rfl, hr, a0, hB⟩ := hrel
          have F2 : Hid (Fd wr w.heap.size p k (.slice (some ⟨g, off, none⟩) (k + 1) cap)) := F1.out.below hB.out (by omega)
          have Z2 : Hid (wr.heap[w.heap.size + 1]? = some (.cells zff 57 (0, 0))) := (hB.out.block _ (by omega)).trans Z1.out
          have B2 : Hid (Below w.heap.size w wr) := B1.out.trans (hB.out.mono (by omega))
          obtain ⟨d0, d1, d2⟩ := F2.out.cells
          by_cases hlt : j < k + 1
          · obtain ⟨y, hy⟩ : ∃ y, xs.getD j 0 = y := ⟨_, rfl⟩
            have cy : wr.cell? ⟨g, off + j, none⟩ = some (.int .i64 y) := by rw [← hy]; exact (hB.out.cell (p := ⟨g, off + j, none⟩) hg1).trans (HC.out j hlt)
            have j0 : (0 : Int) ≤ (j : Int) := by omega
            have j1 : (j : Int) < ((k + 1 : Nat) : Int) := by omega
            have j2 : (j : Int) < 12 := by omega
            have HY := Lib.hid hy
            clear hy
            by_cases y0 : y < 0
            · have E : Hid (¬ fok p k xs = true) := by
                intro h
                rw [fok_iff] at h
                have := h.2.2.2.2.2.1 j hlt
                rw [HY.out] at this
                omega
              go_upto_region 9 with fail
              refine wp_region_list ?_
              refine wpList_buildTo rfl 57 #[] rfl (some 51) rfl zff (by kernel_rfl) ?_
              refine wpList_store_row rfl 57 (.tmp 2) (.tmp 51) rfl _ zff rfl rfl _ _ Z2.out Try.infoFf rfl zff_one ?_
              go_wp2
              refine bodyPost_ret (v := .tuple #[.agg zff, .bool false]) ?_ rfl ⟨by rw [ffAns_no E.out], below_setRow B2.out (by omega) _⟩
              have hld := run_loadVar_row (P := Try.prog) _ _ 57 57 zff (0, 0) _ (setRow_heap _ _ zff zff _ _ Z2.out) Try.underlying57 rfl Try.infoFf
              rw [results_cell_tmp rfl]
              simp [asAddr, Result.andThen, hld]
            · by_cases y1 : (p : Int) ≤ y
              · have E : Hid (¬ fok p k xs = true) := by
                  intro h
                  rw [fok_iff] at h
                  have := h.2.2.2.2.2.1 j hlt
                  rw [HY.out] at this
                  omega
                go_upto_region 9 with fail
                refine wp_region_list ?_
                refine wpList_buildTo rfl 57 #[] rfl (some 51) rfl zff (by kernel_rfl) ?_
                refine wpList_store_row rfl 57 (.tmp 2) (.tmp 51) rfl _ zff rfl rfl _ _ Z2.out Try.infoFf rfl zff_one ?_
                go_wp2
                refine bodyPost_ret (v := .tuple #[.agg zff, .bool false]) ?_ rfl ⟨by rw [ffAns_no E.out], below_setRow B2.out (by omega) _⟩
                have hld := run_loadVar_row (P := Try.prog) _ _ 57 57 zff (0, 0) _ (setRow_heap _ _ zff zff _ _ Z2.out) Try.underlying57 rfl Try.infoFf
                rw [results_cell_tmp rfl]
                simp [asAddr, Result.andThen, hld]
              · have f0 := a0.out.frozen j
                obtain ⟨old, hold⟩ : ∃ old, wr.cell? ⟨w1.heap.size, j, none⟩ = some old := ⟨_, a0.out.cell j (by omega)⟩
                have S0 : Hid (At (wr.setCell ⟨w1.heap.size, j, none⟩ (.int .i64 y)) w1.heap.size (fun i => if i < j + 1 then xs.getD i 0 else 0)) := (a0.out.set j y).congr (fun i hi => by
                  unfold upd
                  by_cases e : i = j
                  · subst e; rw [if_pos rfl, if_pos (by omega), HY.out]
                  · rw [if_neg e]
                    show (if i < j then xs.getD i 0 else 0) = _
                    by_cases h : i < j
                    · rw [if_pos h, if_pos (by omega)]
                    · rw [if_neg h, if_neg (by omega)])
                have SB : Hid (Below w1.heap.size w1 (wr.setCell ⟨w1.heap.size, j, none⟩ (.int .i64 y))) := hB.out.setCell (Nat.le_refl _) _
                have R1 : Hid (∀ i, i < j + 1 → 0 ≤ xs.getD i 0 ∧ xs.getD i 0 < p) := by
                  intro i hi
                  by_cases e : i = j
                  · subst e; rw [HY.out]; omega
                  · exact hr.out i (by omega)
                go_wp2
                go_roundw
                case rel => exact ⟨j + 1, by omega, by go_num, R1, S0, SB⟩
                case measure => simp only [intOf]; omega
          · obtain rfl : j = k + 1 := by omega
            have C0 : Hid (At wr w1.heap.size (cofs xs)) := a0.out.congr (fun i hi => by
              unfold cofs
              by_cases h : i < k + 1
              · rw [if_pos h]
              · rw [if_neg h, List.getD_eq_getElem?_getD, List.getElem?_eq_none (by rw [HN.out]; omega)]; rfl)
            have RD : Hid (Rd p (k + 1) (cofs xs)) := by
              intro i
              unfold cofs
              by_cases h : i < k + 1
              · exact ⟨(hr.out i h).1, (hr.out i h).2, fun q => by omega⟩
              · have e : xs.getD i 0 = 0 := by rw [List.getD_eq_getElem?_getD, List.getElem?_eq_none (by rw [HN.out]; omega)]; rfl
                rw [e]
                exact ⟨Int.le_refl _, by omega, fun _ => rfl⟩
            have HI := Lib.hid (fun W : World => irr_any p k (cofs xs) W p2 p64 (by omega) k6 RD.out Q3.out)
            obtain ⟨V, hV⟩ : ∃ V, irrB p k (cofs xs) = V := ⟨_, rfl⟩
            rw [hV] at HI
            have HV := Lib.hid hV
            clear hV
            cases V
            · have E : Hid (¬ fok p k xs = true) := by
                intro h
                rw [fok_iff] at h
                have := h.2.2.2.2.2.2
                rw [HV.out] at this
                cases this
              go_upto_region 13 with fail
              refine wp_region_list ?_
              refine wpList_load_row rfl 55 (.tmp 5) rfl _ rfl _ _ _ _ C0.out Try.underlying55 rfl (by rw [arr_size]; exact Try.infoPoly) ?_
              go_upto_region 14 with (go_at_call 92; refine (HI.out _).mono ?_; rintro e w4 ⟨rfl, hb4⟩; have F4 : Hid (Fd w4 w.heap.size p k (.slice (some ⟨g, off, none⟩) (k + 1) cap)) := F2.out.below hb4 F2.out.lt; have Z4 : Hid (w4.heap[w.heap.size + 1]? = some (.cells zff 57 (0, 0))) := (hb4.block _ (by have := hB.out.size; omega)).trans Z2.out; have B4 : Hid (Below w.heap.size w w4) := B2.out.trans (hb4.mono B2.out.size); have C4 : Hid (At w4 w1.heap.size (cofs xs)) := C0.out.below hb4 C0.out.lt; clear hb4)
              refine wp_region_list ?_
              refine wpList_buildTo rfl 57 #[] rfl (some 64) rfl zff (by kernel_rfl) ?_
              refine wpList_store_row rfl 57 (.tmp 2) (.tmp 64) rfl _ zff rfl rfl _ _ Z4.out Try.infoFf rfl zff_one ?_
              go_wp2
              refine bodyPost_ret (v := .tuple #[.agg zff, .bool false]) ?_ rfl ⟨by rw [ffAns_no E.out], below_setRow B4.out (by omega) _⟩
              have hld := run_loadVar_row (P := Try.prog) _ _ 57 57 zff (0, 0) _ (setRow_heap _ _ zff zff _ _ Z4.out) Try.underlying57 rfl Try.infoFf
              rw [results_cell_tmp rfl]
              simp [asAddr, Result.andThen, hld]
            · have E : Hid (fok p k xs = true) := (fok_iff p k xs).2 ⟨Q1.out, by omega, Q3.out, HN.out, HX.out, hr.out, HV.out⟩
              go_upto_region 13 with fail
              refine wp_region_list ?_
              refine wpList_load_row rfl 55 (.tmp 5) rfl _ rfl _ _ _ _ C0.out Try.underlying55 rfl (by rw [arr_size]; exact Try.infoPoly) ?_
              go_upto_region 15 with (go_at_call 92; refine (HI.out _).mono ?_; rintro e w4 ⟨rfl, hb4⟩; have F4 : Hid (Fd w4 w.heap.size p k (.slice (some ⟨g, off, none⟩) (k + 1) cap)) := F2.out.below hb4 F2.out.lt; have Z4 : Hid (w4.heap[w.heap.size + 1]? = some (.cells zff 57 (0, 0))) := (hb4.block _ (by have := hB.out.size; omega)).trans Z2.out; have B4 : Hid (Below w.heap.size w w4) := B2.out.trans (hb4.mono B2.out.size); have C4 : Hid (At w4 w1.heap.size (cofs xs)) := C0.out.below hb4 C0.out.lt; clear hb4)
              obtain ⟨g0, g1, g2⟩ := F4.out.cells
              refine wp_region_list ?_
              refine Go.Great.wpList_runTo rfl (some 65) rfl (.pointer (some ⟨w.heap.size, 0, none⟩)) w4 (by go_simp) ?_
              refine Go.Great.wpList_runTo rfl (some 66) rfl (.int .i64 p) w4 (by go_simp) ?_
              refine Go.Great.wpList_runTo rfl (some 67) rfl (.int .i64 k) w4 (by go_simp) ?_
              refine Go.Great.wpList_runTo rfl (some 68) rfl (.int .i64 z) w4 (by go_simp) ?_
              refine wpList_load_row rfl 55 (.tmp 5) rfl _ rfl _ _ _ _ C4.out Try.underlying55 rfl (by rw [arr_size]; exact Try.infoPoly) ?_
              simp only [Act.put, List.setIfInBounds_toArray, List.set_cons_zero, List.set_cons_succ]
              refine wpList_buildTo rfl 57 #[(0, .tmp 66), (1, .tmp 67), (2, .tmp 68), (3, .tmp 69)] rfl (some 70) rfl (ffv p k z (cofs xs)) (by simp only [List.map_toArray, List.map_cons, List.map_nil]; exact Try.builtFf _ _ _ _) ?_
              simp only [Act.put, List.setIfInBounds_toArray, List.set_cons_zero, List.set_cons_succ]
              refine wpList_store_row rfl 57 (.tmp 2) (.tmp 70) rfl _ (ffv p k z (cofs xs)) rfl rfl _ _ Z4.out Try.infoFf rfl (ffv_one _ _ _ _) ?_
              go_wp2
              refine bodyPost_ret (v := .tuple #[.agg (ffv p k z (cofs xs)), .bool true]) ?_ rfl ⟨by rw [ffAns_yes E.out, HZ'.out], below_setRow B4.out (by omega) _⟩
              have hld := run_loadVar_row (P := Try.prog) _ _ 57 57 (ffv p k z (cofs xs)) (0, 0) _ (setRow_heap _ _ zff (ffv p k z (cofs xs)) _ _ Z4.out) Try.underlying57 rfl Try.infoFf
              rw [results_cell_tmp rfl]
              simp [asAddr, Result.andThen, hld]
      · have xT : (x != 1) = true := by simpa using hx1
        have E : Hid (¬ fok p k xs = true) := by
          intro h
          rw [fok_iff] at h
          exact hx1 (by rw [← HX.out]; exact h.2.2.2.2.1)
        go_upto_region 3 with fail
        refine wp_region_list ?_
        refine wpList_buildTo rfl 57 #[] rfl (some 34) rfl zff (by kernel_rfl) ?_
        refine wpList_store_row rfl 57 (.tmp 2) (.tmp 34) rfl _ zff rfl rfl _ _ Z1.out Try.infoFf rfl zff_one ?_
        go_wp2
        refine bodyPost_ret (v := .tuple #[.agg zff, .bool false]) ?_ rfl ⟨by rw [ffAns_no E.out], below_setRow B1.out (by omega) _⟩
        have hld := run_loadVar_row (P := Try.prog) _ _ 57 57 zff (0, 0) _ (setRow_heap _ _ zff zff _ _ Z1.out) Try.underlying57 rfl Try.infoFf
        rw [results_cell_tmp rfl]
        simp [asAddr, Result.andThen, hld]
    · have nT : ((n : Int) != (k : Int) + 1) = true := by simp; omega
      have E : Hid (¬ fok p k xs = true) := by
        intro h
        rw [fok_iff] at h
        exact hnk (by rw [← HN.out]; exact h.2.2.2.1)
      go_upto_region 3 with fail
      refine wp_region_list ?_
      refine wpList_buildTo rfl 57 #[] rfl (some 34) rfl zff (by kernel_rfl) ?_
      refine wpList_store_row rfl 57 (.tmp 2) (.tmp 34) rfl _ zff rfl rfl _ _ Z1.out Try.infoFf rfl zff_one ?_
      go_wp2
      refine bodyPost_ret (v := .tuple #[.agg zff, .bool false]) ?_ rfl ⟨by rw [ffAns_no E.out], below_setRow B1.out (by omega) _⟩
      have hld := run_loadVar_row (P := Try.prog) _ _ 57 57 zff (0, 0) _ (setRow_heap _ _ zff zff _ _ Z1.out) Try.underlying57 rfl Try.infoFf
      rw [results_cell_tmp rfl]
      simp [asAddr, Result.andThen, hld]
end Go.Proofs.Ytmlcdbjibngnkaa
