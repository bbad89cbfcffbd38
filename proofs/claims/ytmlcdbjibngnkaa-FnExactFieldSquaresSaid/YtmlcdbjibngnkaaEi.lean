/- Elements of a field, by the program. -/
import Derived.Test.YtmlcdbjibngnkaaEa
namespace Go.Proofs.Ytmlcdbjibngnkaa
open Go.RowKit
set_option linter.unusedVariables false

/-- A field in the form that computes, in block g. -/
def Ff (w : World) (g : Nat) (P K s : Int) (c : Co) : Prop := w.heap[g]? = some (.cells (ffv P K s c) 57 (0, 0))
theorem Ff.cells {w : World} {g : Nat} {P K s : Int} {c : Co} (h : Ff w g P K s c) : w.cell? ⟨g, 0, none⟩ = some (.int .i64 P) ∧ w.cell? ⟨g, 1, none⟩ = some (.int .i64 K) ∧ w.cell? ⟨g, 2, none⟩ = some (.int .i64 s) :=
  ⟨by rw [cell_of_row w g 0 _ _ _ h]; rfl, by rw [cell_of_row w g 1 _ _ _ h]; rfl, by rw [cell_of_row w g 2 _ _ _ h]; rfl⟩
theorem Ff.lt {w : World} {g : Nat} {P K s : Int} {c : Co} (h : Ff w g P K s c) : g < w.heap.size := by
  unfold Ff at h; exact (Array.getElem?_eq_some_iff.1 h).1
theorem Ff.new (w : World) (P K s : Int) (c : Co) : Ff (w.alloc (.cells (ffv P K s c) 57)) w.heap.size P K s c := heap_alloc_new w _
theorem Ff.range {w : World} {g : Nat} {P K s : Int} {c : Co} (h : Ff w g P K s c) : w.rangeAt g 3 ((vec 12 c).map (Value.int .i64)) := by
  intro j v hv
  rw [cell_of_row w g (3 + j) _ _ _ h]
  have hj : j < 12 := by
    have := (List.getElem?_eq_some_iff.1 hv).1
    simpa using this
  have e : ((vec 12 c).map (Value.int .i64))[j]? = some (.int .i64 (c j)) := by simp [vec, hj]
  rw [e] at hv
  rw [← hv]
  match j, hj with
  | 0, _ => rfl
  | 1, _ => rfl
  | 2, _ => rfl
  | 3, _ => rfl
  | 4, _ => rfl
  | 5, _ => rfl
  | 6, _ => rfl
  | 7, _ => rfl
  | 8, _ => rfl
  | 9, _ => rfl
  | 10, _ => rfl
  | 11, _ => rfl
/-- The worlds of a method's walk. -/
def Sf (w : World) (g : Nat) (P K s : Int) (c : Co) (w' : World) : Prop := Ff w' g P K s c ∧ Below w.heap.size w w'
theorem Sf.next {w : World} {g : Nat} {P K s : Int} {c : Co} {w1 w2 : World} (h : Hid (Sf w g P K s c w1)) (hb : Below w1.heap.size w1 w2) : Hid (Sf w g P K s c w2) :=
  ⟨(hb.block g h.out.1.lt).trans h.out.1, h.out.2.trans (hb.mono h.out.2.size)⟩
theorem Sf.drew {w : World} {g : Nat} {P K s : Int} {c : Co} {w1 : World} (h : Hid (Sf w g P K s c w1)) : Hid (Sf w g P K s c w1.drew) := Sf.next h (Below.refl _ _).drew
theorem Sf.start (w : World) (P K s : Int) (c : Co) : Hid (Sf w w.heap.size P K s c (w.alloc (.cells (ffv P K s c) 57))) := ⟨Ff.new w P K s c, (Below.refl _ _).alloc (Nat.le_refl _) _⟩
theorem heldf {w : World} {g : Nat} {P K s : Int} {c : Co} {w' : World} (h : Hid (Sf w g P K s c w')) : w'.cell? ⟨g, 0, none⟩ = some (.int .i64 P) ∧ w'.cell? ⟨g, 1, none⟩ = some (.int .i64 K) ∧ Hid (Sf w g P K s c w') :=
  ⟨h.out.1.cells.1, h.out.1.cells.2.1, h⟩

theorem ihas (P K s : Int) (c : Co) (a : Int) (w : World) :
    Calls Try.prog 62 #[.agg (ffv P K s c), .int .i64 a] w fun e w' => e = .returned (.bool (decide (0 ≤ a ∧ a < s))) ∧ Below w.heap.size w w' := by
  have S0 := Sf.start w P K s c
  obtain ⟨c0, c1, c2⟩ := S0.out.1.cells
  obtain ⟨q, hq⟩ : ∃ q, ffv P K s c = q := ⟨_, rfl⟩
  rw [hq] at c0 c1 c2 ⊢
  have B1 : Hid (Below w.heap.size w (w.alloc (.cells q 57))) := (Below.refl _ _).alloc (Nat.le_refl _) _
  clear S0 hq
  by_cases h0 : 0 ≤ a
  · by_cases h1 : a < s
    · rw [decide_eq_true ⟨h0, h1⟩]
      have t1 : decide (0 ≤ a) = true := by simpa using h0
      have t2 : decide (a < s) = true := by simpa using h1
      clear h0 h1
      go_enter Try.func62, Try.ntmps62
      go_wp2
      go_ret
      exact ⟨rfl, B1.out⟩
    · rw [decide_eq_false (fun h => h1 h.2)]
      have t1 : decide (0 ≤ a) = true := by simpa using h0
      have t2 : decide (a < s) = false := by simpa using h1
      clear h0 h1
      go_enter Try.func62, Try.ntmps62
      go_wp2
      go_ret
      exact ⟨rfl, B1.out⟩
  · rw [decide_eq_false (fun h => h0 h.1)]
    have t1 : decide (0 ≤ a) = false := by simpa using h0
    clear h0
    go_enter Try.func62, Try.ntmps62
    go_wp2
    go_ret
    exact ⟨rfl, B1.out⟩

set_option maxHeartbeats 1000000 in
theorem iadd (p k : Nat) (s : Int) (c : Co) (a b : Nat) (w : World) (hp : 2 ≤ p) (hp' : p ≤ 64) (hk : k ≤ 6) (hq : p ^ k ≤ 64) (ha : a < p ^ k) (hb : b < p ^ k) :
    Calls Try.prog 76 #[.agg (ffv p k s c), .int .i64 a, .int .i64 b] w fun e w' => e = .returned (.int .i64 (fadd p k a b)) ∧ Below w.heap.size w w' := by
  have S0 := Sf.start w p k s c
  have RA := Lib.hid (dg_rd p a k (by omega) ha)
  have RB := Lib.hid (dg_rd p b k (by omega) hb)
  have HA := Lib.hid (fun W : World => polyOf a p W hp hp' (by omega))
  have HB := Lib.hid (fun W : World => polyOf b p W hp hp' (by omega))
  have HP := Lib.hid (fun W : World => polyPlus p (dg p a) (dg p b) W hp hp' (fun i => ⟨(RA.out i).1, (RA.out i).2.1⟩) (fun i => ⟨(RB.out i).1, (RB.out i).2.1⟩))
  have RS : Rd p k (fun i => (dg p a i + dg p b i) % p) := fun i => ⟨Int.emod_nonneg _ (by omega), Int.emod_lt_of_pos _ (by omega), fun hi => by
    show (dg p a i + dg p b i) % (p : Int) = 0
    rw [(RA.out i).2.2 hi, (RB.out i).2.2 hi]; simp⟩
  have HN := Lib.hid (fun W : World => polyNum p k _ W hp hp' RS hq (by omega))
  obtain ⟨q, hq'⟩ : ∃ q, ffv p k s c = q := ⟨_, rfl⟩
  have HQ := Lib.hid hq'
  rw [hq'] at S0 ⊢
  clear RS ha hb hq hq'
  go_enter Try.func76, Try.ntmps76
  go_wp2
  have S1 := Sf.drew S0
  go_region_held3 (fun w' => w'.cell? ⟨w.heap.size, 0, none⟩ = some (.int .i64 p) ∧ w'.cell? ⟨w.heap.size, 1, none⟩ = some (.int .i64 k) ∧ Hid (Sf w w.heap.size p k s c w')) (first | exact heldf (by assumption))
    (first | (go_at_call 93; (first | (with_reducible refine (HA.out _).mono ?_) | (with_reducible refine (HB.out _).mono ?_)); rintro e w4 ⟨rfl, b4⟩; have S4 := Sf.next (by assumption) b4) | (go_at_call 101; refine (HP.out _).mono ?_; rintro e w4 ⟨rfl, b4⟩; have S4 := Sf.next (by assumption) b4) | (go_at_call 96; refine (HN.out _).mono ?_; rintro e w4 ⟨rfl, b4⟩; have S4 := Sf.next (by assumption) b4; have SB := Lib.hid S4.out.2))
  all_goals go_wp2
  all_goals go_ret
  all_goals exact ⟨rfl, SB.out⟩
end Go.Proofs.Ytmlcdbjibngnkaa
