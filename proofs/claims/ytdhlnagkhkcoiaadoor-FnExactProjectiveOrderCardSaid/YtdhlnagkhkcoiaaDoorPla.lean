/- Orders of planes: the numbers; the program's plane and ordersOf. -/
import Derived.Test.YtdhlnagkhkcoiaaDoorSzs
namespace Go.Proofs.YtdhlnagkhkcoiaaDoor
open Go.RowKit Go.Shelf
set_option linter.unusedVariables false
set_option linter.unusedSimpArgs false

/-- The size of the blocks and the number of the pairs. -/
def kzI (xss : List (List Int)) : Int := (lens xss).getD 0 0
noncomputable def pzI (n : Int) (xss : List (List Int)) : Int := (prA n.toNat (prF xss.length (memP xss)) n.toNat).getD 0 0
noncomputable def affB (n : Int) (xss : List (List Int)) : Bool := desB n xss && (dPar n xss && (decide (pzI n xss = 1) && decide (n = kzI xss * kzI xss)))
noncomputable def prjB (n : Int) (xss : List (List Int)) : Bool := desB n xss && (dPar n xss && (decide (pzI n xss = 1) && (decide (3 ≤ kzI xss) && decide (n = (kzI xss - 1) * (kzI xss - 1) + kzI xss))))
noncomputable def AffineOrder_0 (n : Int) (xss : List (List Int)) : Int := if affB n xss = true then kzI xss else 0
noncomputable def ProjectiveOrder_0 (n : Int) (xss : List (List Int)) : Int := if prjB n xss = true then kzI xss - 1 else 0
theorem aff_no {n : Int} {xss : List (List Int)} (h : desB n xss = false) : AffineOrder_0 n xss = 0 ∧ ProjectiveOrder_0 n xss = 0 := by
  unfold AffineOrder_0 ProjectiveOrder_0 affB prjB; rw [h]; exact ⟨rfl, rfl⟩
theorem aff_nobal {n : Int} {xss : List (List Int)} (h : dPar n xss = false) : AffineOrder_0 n xss = 0 ∧ ProjectiveOrder_0 n xss = 0 := by
  unfold AffineOrder_0 ProjectiveOrder_0 affB prjB; rw [h]; simp
theorem aff_nolam {n : Int} {xss : List (List Int)} (h : pzI n xss ≠ 1) : AffineOrder_0 n xss = 0 ∧ ProjectiveOrder_0 n xss = 0 := by
  unfold AffineOrder_0 ProjectiveOrder_0 affB prjB; rw [decide_eq_false h]; simp
theorem sq_ne {z : Nat} (h : 2 ≤ z) : ((z : Int) - 1) * ((z : Int) - 1) + z ≠ (z : Int) * z := by
  obtain ⟨y, rfl⟩ : ∃ y, z = y + 1 := ⟨z - 1, by omega⟩
  have e : ((y + 1 : Nat) : Int) - 1 = (y : Int) := by omega
  rw [e]
  have e2 : ((y + 1 : Nat) : Int) * ((y + 1 : Nat) : Int) = (y : Int) * y + 2 * y + 1 := by
    rw [show ((y + 1 : Nat) : Int) = (y : Int) + 1 by omega, Int.add_mul, Int.mul_add]; omega
  rw [e2]
  omega
theorem aff_yes {n : Int} {xss : List (List Int)} {z : Nat} (hd : desB n xss = true) (hb : dPar n xss = true) (hp : pzI n xss = 1) (hz : kzI xss = z) (z2 : 2 ≤ z) (h : n = (z : Int) * z) : AffineOrder_0 n xss = z ∧ ProjectiveOrder_0 n xss = 0 := by
  unfold AffineOrder_0 ProjectiveOrder_0 affB prjB
  rw [hd, hb, hp, hz]
  have h2 := sq_ne z2
  rw [decide_eq_true h, decide_eq_false (show ¬ n = ((z : Int) - 1) * ((z : Int) - 1) + z from fun e => h2 (by rw [← e, h]))]
  simp
theorem prj_yes {n : Int} {xss : List (List Int)} {z : Nat} (hd : desB n xss = true) (hb : dPar n xss = true) (hp : pzI n xss = 1) (hz : kzI xss = z) (z2 : 3 ≤ z) (h : n = ((z : Int) - 1) * ((z : Int) - 1) + z) : AffineOrder_0 n xss = 0 ∧ ProjectiveOrder_0 n xss = (z : Int) - 1 := by
  unfold AffineOrder_0 ProjectiveOrder_0 affB prjB
  rw [hd, hb, hp, hz]
  have h2 := sq_ne (z := z) (by omega)
  rw [decide_eq_true h, decide_eq_false (show ¬ n = (z : Int) * z from fun e => h2 (by rw [← h, e])), decide_eq_true (show (3 : Int) ≤ (z : Int) by omega)]
  simp
theorem aff_other {n : Int} {xss : List (List Int)} {z : Nat} (hz : kzI xss = z) (h1 : n ≠ (z : Int) * z) (h2 : ¬ (3 ≤ z ∧ n = ((z : Int) - 1) * ((z : Int) - 1) + z)) : AffineOrder_0 n xss = 0 ∧ ProjectiveOrder_0 n xss = 0 := by
  unfold AffineOrder_0 ProjectiveOrder_0 affB prjB
  rw [hz, decide_eq_false h1]
  by_cases c : 3 ≤ z
  · rw [decide_eq_false (show ¬ n = ((z : Int) - 1) * ((z : Int) - 1) + z from fun e => h2 ⟨c, e⟩)]; simp
  · rw [decide_eq_false (show ¬ (3 : Int) ≤ (z : Int) by omega)]; simp

/-- What plane answers. -/
def affV (n : Int) (m g : Nat) (k : Int) : Value := .iface 55 (.agg #[.int .i64 n, .slice (some ⟨g, 0, none⟩) m m, .int .i64 k])
def prjV (n : Int) (m g : Nat) (k : Int) : Value := .iface 87 (.agg #[.int .i64 n, .slice (some ⟨g, 0, none⟩) m m, .int .i64 k])
inductive PlOut (n : Nat) (m g : Nat) (o : Bool) (z : Nat) (p : Int) : Value → Prop
  | none (h : ¬ (o = true ∧ p = 1)) : PlOut n m g o z p .nilIface
  | aff (h : o = true) (hp : p = 1) (h2 : 2 ≤ z) (hn : (n : Int) = (z : Int) * z) : PlOut n m g o z p (affV n m g z)
  | prj (h : o = true) (hp : p = 1) (h2 : 3 ≤ z) (hn : (n : Int) = ((z : Int) - 1) * ((z : Int) - 1) + z) : PlOut n m g o z p (prjV n m g ((z : Int) - 1))
  | other (h : o = true) (hp : p = 1) (hn : (n : Int) ≠ (z : Int) * z) (h2 : ¬ (3 ≤ z ∧ (n : Int) = ((z : Int) - 1) * ((z : Int) - 1) + z)) : PlOut n m g o z p .nilIface

set_option maxRecDepth 100000 in
set_option maxHeartbeats 4000000 in
theorem iPlane (n m : Nat) (h1 : 1 ≤ n) (h32 : n ≤ 32) (hm : m ≤ 128) (S : Nat → Nat) (g : Nat) (w : World) (hU : Ub w g m S) (hS : ∀ i, i < m → S i < 4294967296) (hP : ∀ i, i < m → ∀ k, (S i).testBit k = true → k < n) (ht : Tab w)
    (o : Bool) (ho : parO n m (szS m S) (prA n (prF m (fun i x => (S i).testBit x)) n) = o) (z : Nat) (hz : o = true → (szS m S).getD 0 0 = z) (p : Int) (hp : o = true → (prA n (prF m (fun i x => (S i).testBit x)) n).getD 0 0 = p) :
    Calls Tryd.prog 54 #[.agg #[.int .i64 (n : Int), .slice (some ⟨g, 0, none⟩) m m]] w fun e w' => ∃ v, e = .returned v ∧ PlOut n m g o z p v ∧ Below w.heap.size w w' := by
  obtain ⟨B, hB⟩ : ∃ B, w.heap.size = B := ⟨_, rfl⟩
  have hpos : 0 < B := by rw [← hB]; exact ht.pos
  have lg : g < B := by rw [← hB]; exact hU.lt
  obtain ⟨w1, hw1⟩ : ∃ w1, w.alloc (.cells #[.int .i64 (n : Int), .slice (some ⟨g, 0, none⟩) m m] 53) = w1 := ⟨_, rfl⟩
  have z1 : w1.heap.size = B + 1 := by rw [← hw1, World.size_alloc, hB]
  have b1 : Below B w w1 := by rw [← hw1]; exact (Below.refl _ _).alloc (by omega) _
  have A1 : w1.heap[B]? = some (.cells #[.int .i64 (n : Int), .slice (some ⟨g, 0, none⟩) m m] 53 (0, 0)) := by rw [← hw1, ← hB]; exact heap_alloc_new _ _
  have c0 : w1.cell? ⟨B, 0, none⟩ = some (.int .i64 (n : Int)) := by rw [cell_of_row w1 B 0 _ _ _ A1]; rfl
  have c1 : w1.cell? ⟨B, 1, none⟩ = some (.slice (some ⟨g, 0, none⟩) m m) := by rw [cell_of_row w1 B 1 _ _ _ A1]; rfl
  have HR := Lib.hid (iParams n m h1 h32 hm S g w1 (hU.below b1 lg) hS hP (ht.below b1 hpos))
  have LZ : Hid (o = true → 2 ≤ z ∧ z ≤ 32) := fun h => by
    have e := hz h
    rw [h] at ho
    unfold parO at ho
    simp only [Bool.and_eq_true, decide_eq_true_eq] at ho
    obtain ⟨-, m0, k2, -⟩ := ho
    refine ⟨by omega, ?_⟩
    have e2 : (szS m S).getD 0 0 = ((cnt 32 (fun k => (S 0).testBit k) : Nat) : Int) := stL_getD _ _ _ m0
    have := cnt_le (fun k => (S 0).testBit k) 32
    omega
  have VP : Hid (o = true → ∃ rz, parV n m (szS m S) (prA n (prF m (fun i x => (S i).testBit x)) n) (repL n m (fun i x => (S i).testBit x)) = prm n m rz z p) := fun h => ⟨_, by unfold parV; rw [ho, if_pos h, hz h, hp h]⟩
  obtain ⟨va, vb, vc, vd, ve, hform⟩ := prm_form n m (szS m S) (prA n (prF m (fun i x => (S i).testBit x)) n) (repL n m (fun i x => (S i).testBit x))
  simp only [hform, ho, prm] at HR VP
  have HB := Lib.hid hB
  have B1 := Lib.hid b1
  have KJ : Hid (∀ W, Below w1.heap.size w1 W → W.cell? ⟨B, 0, none⟩ = some (.int .i64 (n : Int)) ∧ W.cell? ⟨B, 1, none⟩ = some (.slice (some ⟨g, 0, none⟩) m m)) := fun W h =>
    ⟨(h.cell (p := ⟨B, 0, none⟩) (by show B < w1.heap.size; omega)).trans c0, (h.cell (p := ⟨B, 1, none⟩) (by show B < w1.heap.size; omega)).trans c1⟩
  have Z1 := Lib.hid z1
  clear hU hS hP ht b1 A1 lg hz hp hform ho z1
  go_enter Tryd.func54, Tryd.ntmps54
  go_wp2_with fail
  try rw [hw1]
  refine HR.out.mono ?_
  rintro e w5 ⟨rfl, b5⟩
  obtain ⟨w6, hw6⟩ : ∃ w6, w5.alloc (.cells #[.int .i64 va, .int .i64 vb, .int .i64 vc, .int .i64 vd, .int .i64 ve] 83) = w6 := ⟨_, rfl⟩
  have b56 : Below w5.heap.size w5 w6 := by rw [← hw6]; exact (Below.refl _ _).alloc (Nat.le_refl _) _
  have b6 : Below w1.heap.size w1 w6 := b5.trans (b56.mono b5.size)
  have D6 : w6.heap[w5.heap.size]? = some (.cells #[.int .i64 va, .int .i64 vb, .int .i64 vc, .int .i64 vd, .int .i64 ve] 83 (0, 0)) := by rw [← hw6]; exact heap_alloc_new _ _
  obtain ⟨y0, y1, y2, y3, y4, -, -, -, -, -⟩ := cells5 w6 w5.heap.size _ _ _ _ _ _ D6
  obtain ⟨c0', c1'⟩ := KJ.out w6 b6
  have B6 : Hid (Below B w w6) := B1.out.trans (b6.mono (by have := Z1.out; omega))
  clear b5 b56 b6 D6 c0 c1
  cases o with
  | false =>
    go_wp2
    try rw [hw6]
    go_ret
    exact ⟨_, rfl, .none (fun h => by cases h.1), by rw [HB.out]; exact B6.out⟩
  | true =>
    obtain ⟨rz, hprm⟩ := VP.out rfl
    simp only [prm, Value.agg.injEq, Array.mk.injEq, List.cons.injEq, Value.int.injEq, true_and, and_true] at hprm
    obtain ⟨rfl, -, -, rfl, rfl⟩ := hprm
    by_cases q1 : ve = 1
    · subst q1
      obtain ⟨z2, z32⟩ := LZ.out rfl
      have sq : z * z ≤ 32 * 32 := Nat.mul_le_mul z32 z32
      have sqI : (z : Int) * (z : Int) = ((z * z : Nat) : Int) := by rw [Int.natCast_mul]
      obtain ⟨y, hy⟩ : ∃ y : Nat, z = y + 1 := ⟨z - 1, by omega⟩
      have e1 : (z : Int) - 1 = (y : Int) := by omega
      have sy : y * y ≤ 32 * 32 := Nat.mul_le_mul (by omega) (by omega)
      have syI : (y : Int) * (y : Int) = ((y * y : Nat) : Int) := by rw [Int.natCast_mul]
      have v1 := IntWalk.i64_in ((z : Int) * (z : Int)) (by omega)
      have v2 : IntKind.i64.wrap ((z : Int) - 1) = (y : Int) := by rw [e1]; exact IntWalk.i64_in _ (by omega)
      have v3 := IntWalk.i64_in ((y : Int) * (y : Int)) (by omega)
      have v4 := IntWalk.i64_in ((y : Int) * (y : Int) + (z : Int)) (by omega)
      have v5 : IntKind.i64.wrap (((z : Int) - 1) * ((z : Int) - 1)) = (y : Int) * (y : Int) := by rw [e1]; exact v3
      have v6 : IntKind.i64.wrap (((z : Int) - 1) * ((z : Int) - 1) + (z : Int)) = (y : Int) * (y : Int) + (z : Int) := by rw [e1]; exact v4
      have E1 := Lib.hid e1
      have Y1 := Lib.hid hy
      by_cases qa : (n : Int) = (z : Int) * z
      · have t1 : ((n : Int) == (z : Int) * (z : Int)) = true := by simpa using qa
        have QA := Lib.hid qa
        clear qa e1 hy sq sqI sy syI
        go_wp2
        try rw [hw6]
        go_ret
        exact ⟨_, rfl, .aff rfl rfl z2 QA.out, by rw [HB.out]; exact B6.out⟩
      · have t1 : ((n : Int) == (z : Int) * (z : Int)) = false := by simpa using qa
        by_cases qb : (n : Int) = (y : Int) * y + z
        · have t2 : ((n : Int) == (y : Int) * (y : Int) + (z : Int)) = true := by simpa using qb
          have t2' : ((n : Int) == ((z : Int) - 1) * ((z : Int) - 1) + (z : Int)) = true := by rw [e1]; exact t2
          by_cases qc : 3 ≤ z
          · have t3 : decide ((y : Int) ≥ 2) = true := decide_eq_true (by omega)
            have t3' : decide ((2 : Int) ≤ (y : Int)) = true := decide_eq_true (by omega)
            have t3'' : decide ((2 : Int) ≤ (z : Int) - 1) = true := decide_eq_true (by omega)
            have QA := Lib.hid qa
            have QB := Lib.hid qb
            clear qa qb e1 hy sq sqI sy syI
            go_wp2
            try rw [hw6]
            go_ret
            exact ⟨_, rfl, by
              have := PlOut.prj (n := n) (m := m) (g := g) (o := true) (z := z) (p := 1) rfl rfl qc (by rw [E1.out]; exact QB.out)
              unfold prjV at this
              first | exact this | (rw [E1.out] at this; exact this), by rw [HB.out]; exact B6.out⟩
          · have t3 : decide ((y : Int) ≥ 2) = false := decide_eq_false (by omega)
            have t3' : decide ((2 : Int) ≤ (y : Int)) = false := decide_eq_false (by omega)
            have t3'' : decide ((2 : Int) ≤ (z : Int) - 1) = false := decide_eq_false (by omega)
            have QA := Lib.hid qa
            clear qa qb e1 hy sq sqI sy syI
            go_wp2
            try rw [hw6]
            go_ret
            exact ⟨_, rfl, .other rfl rfl QA.out (fun h => qc h.1), by rw [HB.out]; exact B6.out⟩
        · have t2 : ((n : Int) == (y : Int) * (y : Int) + (z : Int)) = false := by simpa using qb
          have t2' : ((n : Int) == ((z : Int) - 1) * ((z : Int) - 1) + (z : Int)) = false := by rw [e1]; exact t2
          have QA := Lib.hid qa
          have QB := Lib.hid qb
          clear qa qb e1 hy sq sqI sy syI
          go_wp2
          try rw [hw6]
          go_ret
          exact ⟨_, rfl, .other rfl rfl QA.out (fun h => QB.out (by have h2 := h.2; rw [E1.out] at h2; exact h2)), by rw [HB.out]; exact B6.out⟩
    · have t1 : (ve != 1) = true := by simpa using q1
      have q1 := Lib.hid q1
      go_wp2
      try rw [hw6]
      go_ret
      exact ⟨_, rfl, .none (fun h => q1.out h.2), by rw [HB.out]; exact B6.out⟩
end Go.Proofs.YtdhlnagkhkcoiaaDoor
