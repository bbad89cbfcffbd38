/- Orders of planes: the numbers; the program's plane and ordersOf. -/
import Derived.Test.YtdhlnagkhkcoiaaGreatDoorSzs
import Derived.Test.YtdhlnagkhkcoiaaGreatDoorDok
namespace Go.Proofs.YtdhlnagkhkcoiaaGreatDoor
open Go.RowKit Go.Shelf
set_option linter.unusedVariables false
set_option linter.unusedSimpArgs false

/-- The size of the blocks and the number of the pairs. -/
def kzI (xss : List (List Int)) : Int := (lens xss).getD 0 0
noncomputable def pzI (n : Int) (xss : List (List Int)) : Int := (prA n.toNat (prF xss.length (memP xss)) n.toNat).getD 0 0
noncomputable def affB (n : Int) (xss : List (List Int)) : Bool := desB n xss && (dPar n xss && (decide (pzI n xss = 1) && decide (n = kzI xss * kzI xss)))
noncomputable def prjB (n : Int) (xss : List (List Int)) : Bool := desB n xss && (dPar n xss && (decide (pzI n xss = 1) && (decide (3 ≤ kzI xss) && decide (n = (kzI xss - 1) * (kzI xss - 1) + kzI xss))))
noncomputable def AffineOrder_0 (n : Int) (xss : List (List Int)) : Int := if affB n xss = true then kzI xss else 0
noncomputable def ProjectiveOrder_0 (n : Int) (xss : List (List Int)) : Int := if prjB n xss = true then kzI xss - 1 else 0
theorem aff_no {n : Int} {xss : List (List Int)} (h : desB n xss = false) : AffineOrder_0 n xss = 0 ∧ ProjectiveOrder_0 n xss = 0 := by
  unfold AffineOrder_0 ProjectiveOrder_0 affB prjB; rw [h]; exact ⟨rfl, rfl⟩
theorem aff_nobal {n : Int} {xss : List (List Int)} (h : dPar n xss = false) : AffineOrder_0 n xss = 0 ∧ ProjectiveOrder_0 n xss = 0 := by
  unfold AffineOrder_0 ProjectiveOrder_0 affB prjB; rw [h]; simp
theorem aff_nolam {n : Int} {xss : List (List Int)} (h : pzI n xss ≠ 1) : AffineOrder_0 n xss = 0 ∧ ProjectiveOrder_0 n xss = 0 := by
  unfold AffineOrder_0 ProjectiveOrder_0 affB prjB; rw [decide_eq_false h]; simp
theorem sq_ne {z : Nat} (h : 2 ≤ z) : ((z : Int) - 1) * ((z : Int) - 1) + z ≠ (z : Int) * z := by
  obtain ⟨y, rfl⟩ : ∃ y, z = y + 1 := ⟨z - 1, by omega⟩
  have e : ((y + 1 : Nat) : Int) - 1 = (y : Int) := by omega
  rw [e]
  have e2 : ((y + 1 : Nat) : Int) * ((y + 1 : Nat) : Int) = (y : Int) * y + 2 * y + 1 := by
    rw [show ((y + 1 : Nat) : Int) = (y : Int) + 1 by omega, Int.add_mul, Int.mul_add]; omega
  rw [e2]
  omega
theorem aff_yes {n : Int} {xss : List (List Int)} {z : Nat} (hd : desB n xss = true) (hb : dPar n xss = true) (hp : pzI n xss = 1) (hz : kzI xss = z) (z2 : 2 ≤ z) (h : n = (z : Int) * z) : AffineOrder_0 n xss = z ∧ ProjectiveOrder_0 n xss = 0 := by
  unfold AffineOrder_0 ProjectiveOrder_0 affB prjB
  rw [hd, hb, hp, hz]
  have h2 := sq_ne z2
  rw [decide_eq_true h, decide_eq_false (show ¬ n = ((z : Int) - 1) * ((z : Int) - 1) + z from fun e => h2 (by rw [← e, h]))]
  simp
theorem prj_yes {n : Int} {xss : List (List Int)} {z : Nat} (hd : desB n xss = true) (hb : dPar n xss = true) (hp : pzI n xss = 1) (hz : kzI xss = z) (z2 : 3 ≤ z) (h : n = ((z : Int) - 1) * ((z : Int) - 1) + z) : AffineOrder_0 n xss = 0 ∧ ProjectiveOrder_0 n xss = (z : Int) - 1 := by
  unfold AffineOrder_0 ProjectiveOrder_0 affB prjB
  rw [hd, hb, hp, hz]
  have h2 := sq_ne (z := z) (by omega)
  rw [decide_eq_true h, decide_eq_false (show ¬ n = (z : Int) * z from fun e => h2 (by rw [← h, e])), decide_eq_true (show (3 : Int) ≤ (z : Int) by omega)]
  simp
theorem aff_other {n : Int} {xss : List (List Int)} {z : Nat} (hz : kzI xss = z) (h1 : n ≠ (z : Int) * z) (h2 : ¬ (3 ≤ z ∧ n = ((z : Int) - 1) * ((z : Int) - 1) + z)) : AffineOrder_0 n xss = 0 ∧ ProjectiveOrder_0 n xss = 0 := by
  unfold AffineOrder_0 ProjectiveOrder_0 affB prjB
  rw [hz, decide_eq_false h1]
  by_cases c : 3 ≤ z
  · rw [decide_eq_false (show ¬ n = ((z : Int) - 1) * ((z : Int) - 1) + z from fun e => h2 ⟨c, e⟩)]; simp
  · rw [decide_eq_false (show ¬ (3 : Int) ≤ (z : Int) by omega)]; simp

/-- What plane answers. -/
def affV (n : Int) (m g : Nat) (k : Int) : Value := .iface 47 (.agg #[.int .i64 n, .slice (some ⟨g, 0, none⟩) m m, .int .i64 k])
def prjV (n : Int) (m g : Nat) (k : Int) : Value := .iface 96 (.agg #[.int .i64 n, .slice (some ⟨g, 0, none⟩) m m, .int .i64 k])
inductive PlOut (n : Nat) (m g : Nat) (o : Bool) (z : Nat) (p : Int) : Value → Prop
  | none (h : ¬ (o = true ∧ p = 1)) : PlOut n m g o z p .nilIface
  | aff (h : o = true) (hp : p = 1) (h2 : 2 ≤ z) (hn : (n : Int) = (z : Int) * z) : PlOut n m g o z p (affV n m g z)
  | prj (h : o = true) (hp : p = 1) (h2 : 3 ≤ z) (hn : (n : Int) = ((z : Int) - 1) * ((z : Int) - 1) + z) : PlOut n m g o z p (prjV n m g ((z : Int) - 1))
  | other (h : o = true) (hp : p = 1) (hn : (n : Int) ≠ (z : Int) * z) (h2 : ¬ (3 ≤ z ∧ (n : Int) = ((z : Int) - 1) * ((z : Int) - 1) + z)) : PlOut n m g o z p .nilIface

set_option maxRecDepth 100000 in
set_option maxHeartbeats 4000000 in
theorem iPlane (n m : Nat) (h1 : 1 ≤ n) (h32 : n ≤ 32) (hm : m ≤ 128) (S : Nat → Nat) (g : Nat) (w : World) (hU : Ub w g m S) (hS : ∀ i, i < m → S i < 4294967296) (hP : ∀ i, i < m → ∀ k, (S i).testBit k = true → k < n) (ht : Tab w)
    (o : Bool) (ho : parO n m (szS m S) (prA n (prF m (fun i x => (S i).testBit x)) n) = o) (z : Nat) (hz : o = true → (szS m S).getD 0 0 = z) (p : Int) (hp : o = true → (prA n (prF m (fun i x => (S i).testBit x)) n).getD 0 0 = p) :
    Calls Tryz.prog 42 #[.agg #[.int .i64 (n : Int), .slice (some ⟨g, 0, none⟩) m m]] w fun e w' => ∃ v, e = .returned v ∧ PlOut n m g o z p v ∧ Below w.heap.size w w' := by
  obtain ⟨B, hB⟩ : ∃ B, w.heap.size = B := ⟨_, rfl⟩
  have hpos : 0 < B := by rw [← hB]; exact ht.pos
  have lg : g < B := by rw [← hB]; exact hU.lt
  obtain ⟨w1, hw1⟩ : ∃ w1, w.alloc (.cells #[.int .i64 (n : Int), .slice (some ⟨g, 0, none⟩) m m] 45) = w1 := ⟨_, rfl⟩
  have z1 : w1.heap.size = B + 1 := by rw [← hw1, World.size_alloc, hB]
  have b1 : Below B w w1 := by rw [← hw1]; exact (Below.refl _ _).alloc (by omega) _
  have A1 : w1.heap[B]? = some (.cells #[.int .i64 (n : Int), .slice (some ⟨g, 0, none⟩) m m] 45 (0, 0)) := by rw [← hw1, ← hB]; exact heap_alloc_new _ _
  have c0 : w1.cell? ⟨B, 0, none⟩ = some (.int .i64 (n : Int)) := by rw [cell_of_row w1 B 0 _ _ _ A1]; rfl
  have c1 : w1.cell? ⟨B, 1, none⟩ = some (.slice (some ⟨g, 0, none⟩) m m) := by rw [cell_of_row w1 B 1 _ _ _ A1]; rfl
  have HR := Lib.hid (iParams n m h1 h32 hm S g w1 (hU.below b1 lg) hS hP (ht.below b1 hpos))
  have LZ : Hid (o = true → 2 ≤ z ∧ z ≤ 32) := fun h => by
    have e := hz h
    rw [h] at ho
    unfold parO at ho
    simp only [Bool.and_eq_true, decide_eq_true_eq] at ho
    obtain ⟨-, m0, k2, -⟩ := ho
    refine ⟨by omega, ?_⟩
    have e2 : (szS m S).getD 0 0 = ((cnt 32 (fun k => (S 0).testBit k) : Nat) : Int) := stL_getD _ _ _ m0
    have := cnt_le (fun k => (S 0).testBit k) 32
    omega
  have VP : Hid (o = true → ∃ rz, parV n m (szS m S) (prA n (prF m (fun i x => (S i).testBit x)) n) (repL n m (fun i x => (S i).testBit x)) = prm n m rz z p) := fun h => ⟨_, by unfold parV; rw [ho, if_pos h, hz h, hp h]⟩
  obtain ⟨va, vb, vc, vd, ve, hform⟩ := prm_form n m (szS m S) (prA n (prF m (fun i x => (S i).testBit x)) n) (repL n m (fun i x => (S i).testBit x))
  simp only [hform, ho, prm] at HR VP
  have HB := Lib.hid hB
  have B1 := Lib.hid b1
  have KJ : Hid (∀ W, Below w1.heap.size w1 W → W.cell? ⟨B, 0, none⟩ = some (.int .i64 (n : Int)) ∧ W.cell? ⟨B, 1, none⟩ = some (.slice (some ⟨g, 0, none⟩) m m)) := fun W h =>
    ⟨(h.cell (p := ⟨B, 0, none⟩) (by show B < w1.heap.size; omega)).trans c0, (h.cell (p := ⟨B, 1, none⟩) (by show B < w1.heap.size; omega)).trans c1⟩
  have Z1 := Lib.hid z1
  clear hU hS hP ht b1 A1 lg hz hp hform ho z1
  go_enter Tryz.func42, Tryz.ntmps42
  go_wp2_with fail
  try rw [hw1]
  refine HR.out.mono ?_
  rintro e w5 ⟨rfl, b5⟩
  obtain ⟨w6, hw6⟩ : ∃ w6, w5.alloc (.cells #[.int .i64 va, .int .i64 vb, .int .i64 vc, .int .i64 vd, .int .i64 ve] 65) = w6 := ⟨_, rfl⟩
  have b56 : Below w5.heap.size w5 w6 := by rw [← hw6]; exact (Below.refl _ _).alloc (Nat.le_refl _) _
  have b6 : Below w1.heap.size w1 w6 := b5.trans (b56.mono b5.size)
  have D6 : w6.heap[w5.heap.size]? = some (.cells #[.int .i64 va, .int .i64 vb, .int .i64 vc, .int .i64 vd, .int .i64 ve] 65 (0, 0)) := by rw [← hw6]; exact heap_alloc_new _ _
  obtain ⟨y0, y1, y2, y3, y4, -, -, -, -, -⟩ := cells5 w6 w5.heap.size _ _ _ _ _ _ D6
  obtain ⟨c0', c1'⟩ := KJ.out w6 b6
  have B6 : Hid (Below B w w6) := B1.out.trans (b6.mono (by have := Z1.out; omega))
  clear b5 b56 b6 D6 c0 c1
  cases o with
  | false =>
    go_wp2
    try rw [hw6]
    go_ret
    exact ⟨_, rfl, .none (fun h => by cases h.1), by rw [HB.out]; exact B6.out⟩
  | true =>
    obtain ⟨rz, hprm⟩ := VP.out rfl
    simp only [prm, Value.agg.injEq, Array.mk.injEq, List.cons.injEq, Value.int.injEq, true_and, and_true] at hprm
    obtain ⟨rfl, -, -, rfl, rfl⟩ := hprm
    by_cases q1 : ve = 1
    · subst q1
      obtain ⟨z2, z32⟩ := LZ.out rfl
      have sq : z * z ≤ 32 * 32 := Nat.mul_le_mul z32 z32
      have sqI : (z : Int) * (z : Int) = ((z * z : Nat) : Int) := by rw [Int.natCast_mul]
      obtain ⟨y, hy⟩ : ∃ y : Nat, z = y + 1 := ⟨z - 1, by omega⟩
      have e1 : (z : Int) - 1 = (y : Int) := by omega
      have sy : y * y ≤ 32 * 32 := Nat.mul_le_mul (by omega) (by omega)
      have syI : (y : Int) * (y : Int) = ((y * y : Nat) : Int) := by rw [Int.natCast_mul]
      have v1 := IntWalk.i64_in ((z : Int) * (z : Int)) (by omega)
      have v2 : IntKind.i64.wrap ((z : Int) - 1) = (y : Int) := by rw [e1]; exact IntWalk.i64_in _ (by omega)
      have v3 := IntWalk.i64_in ((y : Int) * (y : Int)) (by omega)
      have v4 := IntWalk.i64_in ((y : Int) * (y : Int) + (z : Int)) (by omega)
      have v5 : IntKind.i64.wrap (((z : Int) - 1) * ((z : Int) - 1)) = (y : Int) * (y : Int) := by rw [e1]; exact v3
      have v6 : IntKind.i64.wrap (((z : Int) - 1) * ((z : Int) - 1) + (z : Int)) = (y : Int) * (y : Int) + (z : Int) := by rw [e1]; exact v4
      have E1 := Lib.hid e1
      have Y1 := Lib.hid hy
      by_cases qa : (n : Int) = (z : Int) * z
      · have t1 : ((n : Int) == (z : Int) * (z : Int)) = true := by simpa using qa
        have QA := Lib.hid qa
        clear qa e1 hy sq sqI sy syI
        go_wp2
        try rw [hw6]
        go_ret
        exact ⟨_, rfl, .aff rfl rfl z2 QA.out, by rw [HB.out]; exact B6.out⟩
      · have t1 : ((n : Int) == (z : Int) * (z : Int)) = false := by simpa using qa
        by_cases qb : (n : Int) = (y : Int) * y + z
        · have t2 : ((n : Int) == (y : Int) * (y : Int) + (z : Int)) = true := by simpa using qb
          have t2' : ((n : Int) == ((z : Int) - 1) * ((z : Int) - 1) + (z : Int)) = true := by rw [e1]; exact t2
          by_cases qc : 3 ≤ z
          · have t3 : decide ((y : Int) ≥ 2) = true := decide_eq_true (by omega)
            have t3' : decide ((2 : Int) ≤ (y : Int)) = true := decide_eq_true (by omega)
            have t3'' : decide ((2 : Int) ≤ (z : Int) - 1) = true := decide_eq_true (by omega)
            have QA := Lib.hid qa
            have QB := Lib.hid qb
            clear qa qb e1 hy sq sqI sy syI
            go_wp2
            try rw [hw6]
            go_ret
            exact ⟨_, rfl, by
              have := PlOut.prj (n := n) (m := m) (g := g) (o := true) (z := z) (p := 1) rfl rfl qc (by rw [E1.out]; exact QB.out)
              unfold prjV at this
              first | exact this | (rw [E1.out] at this; exact this), by rw [HB.out]; exact B6.out⟩
          · have t3 : decide ((y : Int) ≥ 2) = false := decide_eq_false (by omega)
            have t3' : decide ((2 : Int) ≤ (y : Int)) = false := decide_eq_false (by omega)
            have t3'' : decide ((2 : Int) ≤ (z : Int) - 1) = false := decide_eq_false (by omega)
            have QA := Lib.hid qa
            clear qa qb e1 hy sq sqI sy syI
            go_wp2
            try rw [hw6]
            go_ret
            exact ⟨_, rfl, .other rfl rfl QA.out (fun h => qc h.1), by rw [HB.out]; exact B6.out⟩
        · have t2 : ((n : Int) == (y : Int) * (y : Int) + (z : Int)) = false := by simpa using qb
          have t2' : ((n : Int) == ((z : Int) - 1) * ((z : Int) - 1) + (z : Int)) = false := by rw [e1]; exact t2
          have QA := Lib.hid qa
          have QB := Lib.hid qb
          clear qa qb e1 hy sq sqI sy syI
          go_wp2
          try rw [hw6]
          go_ret
          exact ⟨_, rfl, .other rfl rfl QA.out (fun h => QB.out (by have h2 := h.2; rw [E1.out] at h2; exact h2)), by rw [HB.out]; exact B6.out⟩
    · have t1 : (ve != 1) = true := by simpa using q1
      have q1 := Lib.hid q1
      go_wp2
      try rw [hw6]
      go_ret
      exact ⟨_, rfl, .none (fun h => q1.out h.2), by rw [HB.out]; exact B6.out⟩

/-! Orders of planes: the program's ordersOf, AffineOrder, ProjectiveOrder; affinePlaneOf. -/
section
open Go.RowKit Go.Shelf
set_option linter.unusedVariables false
set_option linter.unusedSimpArgs false

theorem kz_nat (xss : List (List Int)) : ∃ z : Nat, kzI xss = z := by
  unfold kzI lens
  by_cases h : 0 < xss.length
  · exact ⟨_, stL_getD _ _ _ h⟩
  · refine ⟨0, ?_⟩
    obtain rfl : xss = [] := List.eq_nil_of_length_eq_zero (by omega)
    rfl
theorem bits_below {n : Int} {N : Nat} {xss : List (List Int)} {S : Nat → Nat} {m : Nat} (hn : n = N) (hm : xss.length = m) (D : Des n xss) (hS : SetsF xss m S) : ∀ i, i < m → ∀ k, (S i).testBit k = true → k < N := fun i hi k hk => by
  have e := (hS i hi).2 k
  rw [hk] at e
  have mem := of_decide_eq_true e.symm
  obtain ⟨q, hq, e2⟩ := List.mem_iff_getElem.1 mem
  have bk := (D.2.2.2 i (by omega)).1.2 q hq
  unfold okAt at bk
  rw [List.getD_eq_getElem?_getD, List.getElem?_eq_getElem hq] at bk
  simp only [Option.getD_some, e2] at bk
  omega
theorem iPlaneX (N m g : Nat) (S : Nat → Nat) (xss : List (List Int)) (hm : xss.length = m) (D : Des (N : Int) xss) (hS : SetsF xss m S) (z : Nat) (hz : kzI xss = z) (w : World) (hU : Ub w g m S) (ht : Tab w) :
    Calls Tryz.prog 42 #[.agg #[.int .i64 (N : Int), .slice (some ⟨g, 0, none⟩) m m]] w fun e w' => ∃ v, e = .returned v ∧ PlOut N m g (dPar N xss) z (pzI N xss) v ∧ Below w.heap.size w w' := by
  have n1 := D.1
  have n32 := D.2.1
  have m128 := D.2.2.1
  have E1 : szS m S = lens xss := sz_lens hm (show (N : Int) ≤ 32 by omega) (fun i hi => (D.2.2.2 i (by omega)).1) (fun i hi k => (hS i hi).2 k)
  have E2 : prF m (fun i x => (S i).testBit x) = prF m (memP xss) := prF_congr fun i x hi => (hS i hi).2 x
  refine iPlane N m (by omega) (by omega) (by omega) S g w hU (fun i hi => (hS i hi).1) (bits_below rfl hm D hS) ht (dPar N xss) ?_ z ?_ (pzI N xss) ?_
  · rw [E1, E2]; unfold dPar; rw [Int.toNat_natCast, hm]
  · intro _; rw [E1]; exact hz
  · intro _; rw [E2]; unfold pzI; rw [Int.toNat_natCast, hm]

theorem Tryz.infoAf : (Tryz.prog.info? 47).map (·.size) = some 3 := by kernel_rfl
theorem threeA (W : World) (g : Nat) (z0 z1 z2 a b c : Value) (T : TypeId) (h : W.heap[g]? = some (.cells #[z0, z1, z2] T (0, 0))) :
    (((W.setCell ⟨g, 0, none⟩ a).setCell ⟨g, 1, none⟩ b).setCell ⟨g, 2, none⟩ c).heap[g]? = some (.cells #[a, b, c] T (0, 0)) ∧
    (∀ B w, B ≤ g → Below B w W → Below B w (((W.setCell ⟨g, 0, none⟩ a).setCell ⟨g, 1, none⟩ b).setCell ⟨g, 2, none⟩ c)) ∧
    (∀ i, i ≠ g → (((W.setCell ⟨g, 0, none⟩ a).setCell ⟨g, 1, none⟩ b).setCell ⟨g, 2, none⟩ c).heap[i]? = W.heap[i]?) := by
  have h0 := heap_setCell_same W g 0 _ _ a h
  have h1 := heap_setCell_same _ g 1 _ _ b h0
  have h2 := heap_setCell_same _ g 2 _ _ c h1
  refine ⟨h2.trans rfl, fun B w hB hb => ((hb.setCell (p := ⟨g, 0, none⟩) hB _).setCell (p := ⟨g, 1, none⟩) hB _).setCell (p := ⟨g, 2, none⟩) hB _, fun i hi => ?_⟩
  rw [Below.heap_setCell _ _ _ i hi, Below.heap_setCell _ _ _ i hi, Below.heap_setCell _ _ _ i hi]
theorem cells3A (W : World) (g : Nat) (z0 z1 z2 : Value) (T : TypeId) (h : W.heap[g]? = some (.cells #[z0, z1, z2] T (0, 0))) :
    W.cell? ⟨g, 0, none⟩ = some z0 ∧ W.cell? ⟨g, 1, none⟩ = some z1 ∧ W.cell? ⟨g, 2, none⟩ = some z2 ∧
    W.frozen? ⟨g, 0, none⟩ = false ∧ W.frozen? ⟨g, 1, none⟩ = false ∧ W.frozen? ⟨g, 2, none⟩ = false :=
  ⟨by rw [cell_of_row W g 0 _ _ _ h]; rfl, by rw [cell_of_row W g 1 _ _ _ h]; rfl, by rw [cell_of_row W g 2 _ _ _ h]; rfl,
    frozen_of_row W g 0 _ _ h, frozen_of_row W g 1 _ _ h, frozen_of_row W g 2 _ _ h⟩
theorem cells2A (W : World) (g : Nat) (z0 z1 : Value) (T : TypeId) (h : W.heap[g]? = some (.cells #[z0, z1] T (0, 0))) :
    W.cell? ⟨g, 0, none⟩ = some z0 ∧ W.cell? ⟨g, 1, none⟩ = some z1 :=
  ⟨by rw [cell_of_row W g 0 _ _ _ h]; rfl, by rw [cell_of_row W g 1 _ _ _ h]; rfl⟩

set_option maxRecDepth 100000 in
set_option maxHeartbeats 4000000 in
theorem iOrders (n : Int) (xss : List (List Int)) (hx : xss.length ≤ 1048576) (w : World) (v : Value) (hv : RowsAt w v xss) (ht : Tab w) :
    Calls Tryz.prog 58 #[.agg #[.int .i64 n, v]] w fun e w' => e = .returned (.tuple #[.int .i64 (AffineOrder_0 n xss), .int .i64 (ProjectiveOrder_0 n xss)]) ∧ Below w.heap.size w w' := by
  obtain ⟨va, cap, rfl, -⟩ := hv.shape
  obtain ⟨m, hm⟩ : ∃ m, xss.length = m := ⟨_, rfl⟩
  rw [hm] at hv ⊢
  obtain ⟨B, hB⟩ : ∃ B, w.heap.size = B := ⟨_, rfl⟩
  have hpos : 0 < B := by rw [← hB]; exact ht.pos
  obtain ⟨w1, hw1⟩ : ∃ w1, w.alloc (.cells #[.int .i64 n, .slice va m cap] 26) = w1 := ⟨_, rfl⟩
  have z1 : w1.heap.size = B + 1 := by rw [← hw1, World.size_alloc, hB]
  have b1 : Below B w w1 := by rw [← hw1]; exact (Below.refl _ _).alloc (by omega) _
  have A1 : w1.heap[B]? = some (.cells #[.int .i64 n, .slice va m cap] 26 (0, 0)) := by rw [← hw1, ← hB]; exact heap_alloc_new _ _
  obtain ⟨c0, c1⟩ := cells2A w1 B _ _ _ A1
  have HO := Lib.hid (iInc n xss hx w1 _ (hv.below b1 (by omega)) (ht.below b1 hpos))
  rw [z1] at HO
  have HB := Lib.hid hB
  have B1 := Lib.hid b1
  have TB := Lib.hid ht
  have BA : Hid (∀ W cs T, Below B w W → Below B w (W.alloc (.cells cs T))) := fun W cs T h => h.alloc (by have := h.size; omega) _
  have as1 : ∀ v W, (Instr.typeAssert (.iface 47 v) 20 47 true).run Tryz.prog W = .ok (.tuple #[v, .bool true]) W := fun v W => by kernel_rfl
  have as2 : ∀ v W, (Instr.typeAssert (.iface 96 v) 20 47 true).run Tryz.prog W = .ok (.tuple #[.agg #[.int .i64 0, .slice none 0 0, .int .i64 0], .bool false]) W := fun v W => by kernel_rfl
  have as3 : ∀ W, (Instr.typeAssert .nilIface 20 47 true).run Tryz.prog W = .ok (.tuple #[.agg #[.int .i64 0, .slice none 0 0, .int .i64 0], .bool false]) W := fun W => by kernel_rfl
  have as4 : ∀ v W, (Instr.typeAssert (.iface 96 v) 20 96 true).run Tryz.prog W = .ok (.tuple #[v, .bool true]) W := fun v W => by kernel_rfl
  have as5 : ∀ W, (Instr.typeAssert .nilIface 20 96 true).run Tryz.prog W = .ok (.tuple #[.agg #[.int .i64 0, .slice none 0 0, .int .i64 0], .bool false]) W := fun W => by kernel_rfl
  clear hv A1 b1 z1 ht
  cases hp : desB n xss with
  | false =>
    obtain ⟨V0, V1⟩ := aff_no hp
    have V0 := Lib.hid V0
    have V1 := Lib.hid V1
    rw [hp] at HO
    clear hp
    go_enter Tryz.func58, Tryz.ntmps58
    go_wp2_with fail
    try rw [hw1]
    refine HO.out.mono ?_
    rintro e w3 ⟨z, rfl, ⟨hz, -⟩, b3⟩
    obtain rfl := hz rfl
    have B3 : Below B w w3 := B1.out.trans (b3.mono (by omega))
    have B4 : Hid (Below B w (w3.alloc (.cells #[.int .i64 0, .slice none 0 0] 45))) := BA.out _ _ _ B3
    clear b3 B3 c0 c1
    go_wp2
    go_ret2
    exact ⟨by rw [V0.out, V1.out]; rfl, by rw [HB.out]; exact B4.out⟩
  | true =>
    have D := of_desB hp
    obtain ⟨N, rfl⟩ : ∃ N : Nat, n = N := ⟨n.toNat, by have := D.1; omega⟩
    obtain ⟨z, hz⟩ := kz_nat xss
    have HPl := Lib.hid (fun g S W (hS : SetsF xss m S) (hU : Ub W g m S) (t : Tab W) => iPlaneX N m g S xss hm D hS z hz W hU t)
    have VN : Hid (¬ (dPar N xss = true ∧ pzI N xss = 1) → AffineOrder_0 N xss = 0 ∧ ProjectiveOrder_0 N xss = 0) := fun h => by
      by_cases h1 : dPar N xss = true
      · exact aff_nolam (fun e => h ⟨h1, e⟩)
      · exact aff_nobal (by simpa using h1)
    have VA := Lib.hid (fun h1 h2 h3 h4 => aff_yes (n := N) (xss := xss) (z := z) hp h1 h2 hz h3 h4)
    have VP := Lib.hid (fun h1 h2 h3 h4 => prj_yes (n := N) (xss := xss) (z := z) hp h1 h2 hz h3 h4)
    have VO := Lib.hid (fun h1 h2 => aff_other (n := N) (xss := xss) (z := z) hz h1 h2)
    rw [hp] at HO
    clear hp hz D
    go_enter Tryz.func58, Tryz.ntmps58
    go_wp2_with fail
    try rw [hw1]
    refine HO.out.mono ?_
    rintro e w3 ⟨zv, rfl, ⟨-, hzv⟩, b3⟩
    obtain ⟨g, S, rfl, hg, hU, hS⟩ := hzv rfl
    rw [hm] at hU hS ⊢
    have B3 : Below B w w3 := B1.out.trans (b3.mono (by omega))
    have s3 := B3.size
    obtain ⟨w4, hw4⟩ : ∃ w4, w3.alloc (.cells #[.int .i64 (N : Int), .slice (some ⟨g, 0, none⟩) m m] 45) = w4 := ⟨_, rfl⟩
    have b34 : Below w3.heap.size w3 w4 := by rw [← hw4]; exact (Below.refl _ _).alloc (Nat.le_refl _) _
    have B4 : Below B w w4 := B3.trans (b34.mono (by omega))
    have N4 : w4.heap[w3.heap.size]? = some (.cells #[.int .i64 (N : Int), .slice (some ⟨g, 0, none⟩) m m] 45 (0, 0)) := by rw [← hw4]; exact heap_alloc_new _ _
    obtain ⟨e0, e1⟩ := cells2A w4 _ _ _ _ N4
    have HR := Lib.hid (HPl.out g S w4 hS (hU.below b34 hU.lt) (TB.out.below B4 hpos))
    have BB4 := Lib.hid B4
    clear b3 hU hS B3 b34 N4 c0 c1 s3 hg hm B4
    go_wp2_with fail
    try rw [hw4]
    refine HR.out.mono ?_
    rintro e w5 ⟨pv, rfl, hpl, b5⟩
    have B5 : Hid (Below B w w5) := BB4.out.trans (b5.mono (by have := BB4.out.size; have := HB.out; omega))
    clear b5 e0 e1
    cases hpl with
    | none h =>
      obtain ⟨V0, V1⟩ := VN.out h
      have V0 := Lib.hid V0
      have V1 := Lib.hid V1
      replace h := Lib.hid h
      go_wp2
      go_ret2
      exact ⟨by rw [V0.out, V1.out]; rfl, by rw [HB.out]; exact B5.out⟩
    | other h hp hn h2 =>
      obtain ⟨V0, V1⟩ := VO.out hn h2
      have V0 := Lib.hid V0
      have V1 := Lib.hid V1
      replace hp := Lib.hid hp
      replace hn := Lib.hid hn
      replace h2 := Lib.hid h2
      replace h := Lib.hid h
      go_wp2
      go_ret2
      exact ⟨by rw [V0.out, V1.out]; rfl, by rw [HB.out]; exact B5.out⟩
    | aff h hp h2 hn =>
      obtain ⟨V0, V1⟩ := VA.out h hp h2 hn
      have V0 := Lib.hid V0
      have V1 := Lib.hid V1
      replace hp := Lib.hid hp
      replace hn := Lib.hid hn
      replace h := Lib.hid h
      obtain ⟨w6, hw6⟩ : ∃ w6, w5.alloc (.cells #[.int .i64 (N : Int), .slice (some ⟨g, 0, none⟩) m m, .int .i64 (z : Int)] 47) = w6 := ⟨_, rfl⟩
      have N6 : w6.heap[w5.heap.size]? = some (.cells #[.int .i64 (N : Int), .slice (some ⟨g, 0, none⟩) m m, .int .i64 (z : Int)] 47 (0, 0)) := by rw [← hw6]; exact heap_alloc_new _ _
      have B6 : Hid (Below B w w6) := by rw [← hw6]; exact BA.out _ _ _ B5.out
      obtain ⟨f0, f1, f2, -, -, -⟩ := cells3A w6 _ _ _ _ _ N6
      clear N6
      unfold affV
      go_wp2
      try rw [hw6]
      go_ret2
      exact ⟨by rw [V0.out, V1.out]; rfl, by rw [HB.out]; exact B6.out⟩
    | prj h hp h2 hn =>
      obtain ⟨V0, V1⟩ := VP.out h hp h2 hn
      have V0 := Lib.hid V0
      have V1 := Lib.hid V1
      replace hp := Lib.hid hp
      replace hn := Lib.hid hn
      replace h := Lib.hid h
      obtain ⟨y, hy⟩ : ∃ y, (z : Int) - 1 = y := ⟨_, rfl⟩
      rw [hy] at V1
      unfold prjV
      rw [hy]
      obtain ⟨w6, hw6⟩ : ∃ w6, w5.alloc (.cells #[.int .i64 (N : Int), .slice (some ⟨g, 0, none⟩) m m, .int .i64 y] 96) = w6 := ⟨_, rfl⟩
      have N6 : w6.heap[w5.heap.size]? = some (.cells #[.int .i64 (N : Int), .slice (some ⟨g, 0, none⟩) m m, .int .i64 y] 96 (0, 0)) := by rw [← hw6]; exact heap_alloc_new _ _
      have B6 : Hid (∀ d, Below B w (w6.drewN d)) := fun d => by rw [← hw6]; exact below_drewN (BA.out _ _ _ B5.out) d
      obtain ⟨f0, f1, f2, -, -, -⟩ := cells3A w6 _ _ _ _ _ N6
      have f2' : w6.drew.cell? ⟨w5.heap.size, 2, none⟩ = some (.int .i64 y) := f2
      clear N6 hy
      go_wp2
      try rw [hw6]
      go_quiet (fail)
      go_wp2
      go_ret2
      exact ⟨by rw [V0.out, V1.out]; rfl, by rw [HB.out]; exact B6.out _⟩

set_option maxRecDepth 100000 in
set_option maxHeartbeats 4000000 in
theorem iProjectiveOrder (n : Int) (xss : List (List Int)) (hx : xss.length ≤ 1048576) (w : World) (v : Value) (hv : RowsAt w v xss) (ht : Tab w) :
    Calls Tryz.prog 33 #[.agg #[.int .i64 n, v]] w fun e w' => e = .returned (.int .i64 (ProjectiveOrder_0 n xss)) ∧ Below w.heap.size w w' := by
  obtain ⟨va, cap, rfl, -⟩ := hv.shape
  obtain ⟨m, hm⟩ : ∃ m, xss.length = m := ⟨_, rfl⟩
  rw [hm] at hv ⊢
  obtain ⟨B, hB⟩ : ∃ B, w.heap.size = B := ⟨_, rfl⟩
  have hpos : 0 < B := by rw [← hB]; exact ht.pos
  obtain ⟨w1, hw1⟩ : ∃ w1, w.alloc (.cells #[.int .i64 n, .slice va m cap] 26) = w1 := ⟨_, rfl⟩
  have z1 : w1.heap.size = B + 1 := by rw [← hw1, World.size_alloc, hB]
  have b1 : Below B w w1 := by rw [← hw1]; exact (Below.refl _ _).alloc (by omega) _
  have A1 : w1.heap[B]? = some (.cells #[.int .i64 n, .slice va m cap] 26 (0, 0)) := by rw [← hw1, ← hB]; exact heap_alloc_new _ _
  obtain ⟨c0, c1⟩ := cells2A w1 B _ _ _ A1
  have HO := Lib.hid (iOrders n xss hx w1 _ (hv.below b1 (by omega)) (ht.below b1 hpos))
  have B1 := Lib.hid b1
  have Z1 := Lib.hid z1
  have HB := Lib.hid hB
  clear hv A1 b1 z1 ht
  go_enter Tryz.func33, Tryz.ntmps33
  go_wp2_with fail
  try rw [hw1]
  refine HO.out.mono ?_
  rintro e w3 ⟨rfl, b3⟩
  have B3 : Hid (Below B w w3) := B1.out.trans (b3.mono (by have := Z1.out; omega))
  clear b3
  go_wp2
  go_ret
  exact ⟨rfl, by rw [HB.out]; exact B3.out⟩
end

/-! Orders of planes: the model's. -/
section
open Go.RowKit Go.Shelf
set_option linter.unusedVariables false
set_option linter.unusedSimpArgs false

theorem rises_geP {hi : Int} {xs : List Int} (h : Rises 0 hi xs) : ∀ i, i < xs.length → (i : Int) ≤ xs.getD i 0
  | 0, hi => (h 0 hi).1
  | i + 1, hi => by
    have h1 := rises_geP h i (by omega)
    have h2 := (h (i + 1) hi).2.2 (by omega)
    rw [Nat.add_sub_cancel] at h2
    omega
theorem rises_lenP {n : Int} {xs : List Int} (h : Rises 0 (n - 1) xs) (hn : 0 ≤ n) : (xs.length : Int) ≤ n := by
  by_cases c : 0 < xs.length
  · have h1 := rises_geP h (xs.length - 1) (by omega)
    have h2 := (h (xs.length - 1) (by omega)).2.1
    omega
  · omega
theorem kz_le {n : Int} {xss : List (List Int)} {z : Nat} (D : Des n xss) (hb : dPar n xss = true) (hz : kzI xss = z) : 2 ≤ z ∧ z ≤ 32 := by
  unfold dPar parO at hb
  simp only [Bool.and_eq_true, decide_eq_true_eq] at hb
  obtain ⟨-, m0, k2, -⟩ := hb
  have n32 := D.2.1
  have e2 : kzI xss = (((xss.getD 0 []).length : Nat) : Int) := stL_getD _ _ _ m0
  refine ⟨by unfold kzI at hz; omega, ?_⟩
  have := rises_lenP (D.2.2.2 0 m0).1.2 (by have := D.1; omega)
  omega

set_option maxRecDepth 100000 in
set_option maxHeartbeats 4000000 in
theorem s12Affine (n : Int) (xss : List (List Int)) (w : World) (v : Value) (g : Nat) (c0 : w.cell? ⟨g, 0, none⟩ = some (.int .i64 n)) (c1 : w.cell? ⟨g, 1, none⟩ = some v) (hv : RowsAt w v xss) :
    Calls Tryz.prog 16 #[.pointer (some ⟨g, 0, none⟩)] w fun e w' => e = .returned (.int .i64 (AffineOrder_0 n xss)) ∧ Below w.heap.size w w' := by
  have HO := Lib.hid (sOk n xss w v g c0 c1 hv)
  have lg : g < w.heap.size := World.block_lt_of_cell? w _ c0
  obtain ⟨B, hB⟩ : ∃ B, w.heap.size = B := ⟨_, rfl⟩
  have HB := Lib.hid hB
  have RF : Hid (∀ d, Below B w (w.drewN d)) := fun d => below_drewN (Below.refl _ _) d
  have BA : Hid (∀ W cs T, Below B w W → Below B w (W.alloc (.cells cs T))) := fun W cs T h => h.alloc (by have := h.size; omega) _
  cases hp : desB n xss with
  | false =>
    have V := Lib.hid ((aff_no hp).1)
    rw [hp] at HO
    clear hp hv c0 c1
    go_enter Tryz.func16, Tryz.ntmps16
    go_wp2_with fail
    refine HO.out.mono ?_
    rintro e w3 ⟨rfl, d, rfl⟩
    go_wp2
    go_ret
    exact ⟨by rw [V.out]; rfl, by rw [HB.out]; exact RF.out d⟩
  | true =>
    have D := of_desB hp
    obtain ⟨N, rfl⟩ : ∃ N : Nat, n = N := ⟨n.toNat, by have := D.1; omega⟩
    have n1 := D.1
    have n32 := D.2.1
    obtain ⟨z, hz⟩ := kz_nat xss
    obtain ⟨m, hm⟩ : ∃ m, xss.length = m := ⟨_, rfl⟩
    have HR := Lib.hid (fun d => sParams N (by omega) (by omega) xss D.2.2.1 (fun i hi => (D.2.2.2 i hi).1) (w.drewN d) v g c0 c1 (hv.drewN d))
    have VN1 : Hid (dPar N xss = false → AffineOrder_0 N xss = 0) := fun h => (aff_nobal h).1
    have VN2 : Hid (pzI N xss ≠ 1 → AffineOrder_0 N xss = 0) := fun h => (aff_nolam h).1
    have VA := Lib.hid (fun h1 h2 h3 h4 => (aff_yes (n := N) (xss := xss) (z := z) hp h1 h2 hz h3 h4).1)
    have VP := Lib.hid (fun h1 h2 h3 h4 => (prj_yes (n := N) (xss := xss) (z := z) hp h1 h2 hz h3 h4).1)
    have VO := Lib.hid (fun h1 h2 => (aff_other (n := N) (xss := xss) (z := z) hz h1 h2).1)
    have KZ := Lib.hid (fun h => kz_le D h hz)
    have VV : Hid (dPar N xss = true → ∃ rz, parV N xss.length (lens xss) (prA N (prF xss.length (memP xss)) N) (repL N xss.length (memP xss)) = prm N m rz z (pzI N xss)) := fun h => ⟨(repL N m (memP xss)).getD 0 0, by
      unfold dPar at h
      rw [Int.toNat_natCast] at h
      unfold parV
      rw [if_pos h]
      unfold kzI at hz
      rw [hz, hm]
      unfold pzI
      rw [Int.toNat_natCast, hm]⟩
    obtain ⟨va, vb, vc, vd, ve, hform⟩ := prm_form N xss.length (lens xss) (prA N (prF xss.length (memP xss)) N) (repL N xss.length (memP xss))
    have hdp : parO N xss.length (lens xss) (prA N (prF xss.length (memP xss)) N) = dPar N xss := by unfold dPar; rw [Int.toNat_natCast]
    simp only [hform, hdp, prm] at HR VV
    have VZ : Hid (dPar N xss = false → prm va vb vc vd ve = prm 0 0 0 0 0) := fun h => by
      rw [← hdp] at h
      rw [← hform]; exact parV_no h
    obtain ⟨o, ho⟩ : ∃ o, dPar N xss = o := ⟨_, rfl⟩
    obtain ⟨p, hpz⟩ : ∃ p, pzI N xss = p := ⟨_, rfl⟩
    simp only [ho] at HR VV VN1 VA VP KZ VZ
    simp only [hpz] at VV VN2 VA VP
    rw [hp] at HO
    clear hp hv c0 c1 D hform hdp ho hpz hz hm
    go_enter Tryz.func16, Tryz.ntmps16
    go_wp2_with fail
    refine HO.out.mono ?_
    rintro e w3 ⟨rfl, d, rfl⟩
    go_wp2_with fail
    refine (HR.out d).mono ?_
    rintro e w4 ⟨rfl, b4⟩
    have B4 : Below B w w4 := (RF.out d).trans (b4.mono (by show B ≤ w.heap.size; omega))
    obtain ⟨J, hJ⟩ : ∃ J, w4.heap.size = J := ⟨_, rfl⟩
    obtain ⟨w5, hw5⟩ : ∃ w5, w4.alloc (.cells #[.int .i64 va, .int .i64 vb, .int .i64 vc, .int .i64 vd, .int .i64 ve] 65) = w5 := ⟨_, rfl⟩
    have B5 : Hid (Below B w w5) := by rw [← hw5]; exact BA.out _ _ _ B4
    have D5 : w5.heap[J]? = some (.cells #[.int .i64 va, .int .i64 vb, .int .i64 vc, .int .i64 vd, .int .i64 ve] 65 (0, 0)) := by rw [← hw5, ← hJ]; exact heap_alloc_new _ _
    obtain ⟨y0, y1, y2, y3, y4, -, -, -, -, -⟩ := cells5 w5 J _ _ _ _ _ _ D5
    clear b4 B4 D5 lg hB
    cases o with
    | false =>
      have V := Lib.hid (VN1.out rfl)
      have hprm := VZ.out rfl
      simp only [prm, Value.agg.injEq, Array.mk.injEq, List.cons.injEq, Value.int.injEq, true_and, and_true] at hprm
      have v9 : IntKind.i64.wrap (vd - 1) = -1 := by rw [hprm.2.2.2.1]; decide
      clear hprm
      go_wp2
      try rw [hw5]
      go_ret
      exact ⟨by rw [V.out]; rfl, by rw [HB.out]; exact B5.out⟩
    | true =>
      obtain ⟨z2, z32⟩ := KZ.out rfl
      obtain ⟨rz, hprm⟩ := VV.out rfl
      simp only [prm, Value.agg.injEq, Array.mk.injEq, List.cons.injEq, Value.int.injEq, true_and, and_true] at hprm
      obtain ⟨rfl, -, -, rfl, rfl⟩ := hprm
      have sq : z * z ≤ 32 * 32 := Nat.mul_le_mul z32 z32
      have sqI : (z : Int) * (z : Int) = ((z * z : Nat) : Int) := by rw [Int.natCast_mul]
      obtain ⟨y, hy⟩ : ∃ y : Nat, z = y + 1 := ⟨z - 1, by omega⟩
      have e1 : (z : Int) - 1 = (y : Int) := by omega
      have sy : y * y ≤ 32 * 32 := Nat.mul_le_mul (by omega) (by omega)
      have syI : (y : Int) * (y : Int) = ((y * y : Nat) : Int) := by rw [Int.natCast_mul]
      have v1 := IntWalk.i64_in ((z : Int) * (z : Int)) (by omega)
      by_cases q1 : ve = 1
      · subst q1
        by_cases qa : (N : Int) = (z : Int) * z
        · have t1 : ((N : Int) != (z : Int) * (z : Int)) = false := by simpa using qa
          have V := Lib.hid (VA.out rfl rfl z2 qa)
          clear qa e1 hy sq sqI sy syI
          go_wp2
          try rw [hw5]
          go_ret
          exact ⟨by rw [V.out]; rfl, by rw [HB.out]; exact B5.out⟩
        · have t1 : ((N : Int) != (z : Int) * (z : Int)) = true := by simpa using qa
          have V : Hid (AffineOrder_0 N xss = 0) := by
            by_cases qb : 3 ≤ z ∧ (N : Int) = ((z : Int) - 1) * ((z : Int) - 1) + z
            · exact VP.out rfl rfl qb.1 qb.2
            · exact VO.out qa qb
          clear e1 hy sq sqI sy syI
          replace qa := Lib.hid qa
          go_wp2
          try rw [hw5]
          go_ret
          exact ⟨by rw [V.out]; rfl, by rw [HB.out]; exact B5.out⟩
      · have t1 : (ve != 1) = true := by simpa using q1
        have V := Lib.hid (VN2.out q1)
        replace q1 := Lib.hid q1
        clear e1 hy sq sqI sy syI
        go_wp2
        try rw [hw5]
        go_ret
        exact ⟨by rw [V.out]; rfl, by rw [HB.out]; exact B5.out⟩

set_option maxRecDepth 100000 in
set_option maxHeartbeats 4000000 in
theorem s12Projective (n : Int) (xss : List (List Int)) (w : World) (v : Value) (g : Nat) (c0 : w.cell? ⟨g, 0, none⟩ = some (.int .i64 n)) (c1 : w.cell? ⟨g, 1, none⟩ = some v) (hv : RowsAt w v xss) :
    Calls Tryz.prog 30 #[.pointer (some ⟨g, 0, none⟩)] w fun e w' => e = .returned (.int .i64 (ProjectiveOrder_0 n xss)) ∧ Below w.heap.size w w' := by
  have HO := Lib.hid (sOk n xss w v g c0 c1 hv)
  have lg : g < w.heap.size := World.block_lt_of_cell? w _ c0
  obtain ⟨B, hB⟩ : ∃ B, w.heap.size = B := ⟨_, rfl⟩
  have HB := Lib.hid hB
  have RF : Hid (∀ d, Below B w (w.drewN d)) := fun d => below_drewN (Below.refl _ _) d
  have BA : Hid (∀ W cs T, Below B w W → Below B w (W.alloc (.cells cs T))) := fun W cs T h => h.alloc (by have := h.size; omega) _
  cases hp : desB n xss with
  | false =>
    have V := Lib.hid ((aff_no hp).2)
    rw [hp] at HO
    clear hp hv c0 c1
    go_enter Tryz.func30, Tryz.ntmps30
    go_wp2_with fail
    refine HO.out.mono ?_
    rintro e w3 ⟨rfl, d, rfl⟩
    go_wp2
    go_ret
    exact ⟨by rw [V.out]; rfl, by rw [HB.out]; exact RF.out d⟩
  | true =>
    have D := of_desB hp
    obtain ⟨N, rfl⟩ : ∃ N : Nat, n = N := ⟨n.toNat, by have := D.1; omega⟩
    have n1 := D.1
    have n32 := D.2.1
    obtain ⟨z, hz⟩ := kz_nat xss
    obtain ⟨m, hm⟩ : ∃ m, xss.length = m := ⟨_, rfl⟩
    have HR := Lib.hid (fun d => sParams N (by omega) (by omega) xss D.2.2.1 (fun i hi => (D.2.2.2 i hi).1) (w.drewN d) v g c0 c1 (hv.drewN d))
    have VN1 : Hid (dPar N xss = false → ProjectiveOrder_0 N xss = 0) := fun h => (aff_nobal h).2
    have VN2 : Hid (pzI N xss ≠ 1 → ProjectiveOrder_0 N xss = 0) := fun h => (aff_nolam h).2
    have VA := Lib.hid (fun h1 h2 h3 h4 => (aff_yes (n := N) (xss := xss) (z := z) hp h1 h2 hz h3 h4).2)
    have VP := Lib.hid (fun h1 h2 h3 h4 => (prj_yes (n := N) (xss := xss) (z := z) hp h1 h2 hz h3 h4).2)
    have VO := Lib.hid (fun h1 h2 => (aff_other (n := N) (xss := xss) (z := z) hz h1 h2).2)
    have KZ := Lib.hid (fun h => kz_le D h hz)
    have VV : Hid (dPar N xss = true → ∃ rz, parV N xss.length (lens xss) (prA N (prF xss.length (memP xss)) N) (repL N xss.length (memP xss)) = prm N m rz z (pzI N xss)) := fun h => ⟨(repL N m (memP xss)).getD 0 0, by
      unfold dPar at h
      rw [Int.toNat_natCast] at h
      unfold parV
      rw [if_pos h]
      unfold kzI at hz
      rw [hz, hm]
      unfold pzI
      rw [Int.toNat_natCast, hm]⟩
    obtain ⟨va, vb, vc, vd, ve, hform⟩ := prm_form N xss.length (lens xss) (prA N (prF xss.length (memP xss)) N) (repL N xss.length (memP xss))
    have hdp : parO N xss.length (lens xss) (prA N (prF xss.length (memP xss)) N) = dPar N xss := by unfold dPar; rw [Int.toNat_natCast]
    simp only [hform, hdp, prm] at HR VV
    have VZ : Hid (dPar N xss = false → prm va vb vc vd ve = prm 0 0 0 0 0) := fun h => by
      rw [← hdp] at h
      rw [← hform]; exact parV_no h
    obtain ⟨o, ho⟩ : ∃ o, dPar N xss = o := ⟨_, rfl⟩
    obtain ⟨p, hpz⟩ : ∃ p, pzI N xss = p := ⟨_, rfl⟩
    simp only [ho] at HR VV VN1 VA VP KZ VZ
    simp only [hpz] at VV VN2 VA VP
    rw [hp] at HO
    clear hp hv c0 c1 D hform hdp ho hpz hz hm
    go_enter Tryz.func30, Tryz.ntmps30
    go_wp2_with fail
    refine HO.out.mono ?_
    rintro e w3 ⟨rfl, d, rfl⟩
    go_wp2_with fail
    refine (HR.out d).mono ?_
    rintro e w4 ⟨rfl, b4⟩
    have B4 : Below B w w4 := (RF.out d).trans (b4.mono (by show B ≤ w.heap.size; omega))
    obtain ⟨J, hJ⟩ : ∃ J, w4.heap.size = J := ⟨_, rfl⟩
    obtain ⟨w5, hw5⟩ : ∃ w5, w4.alloc (.cells #[.int .i64 va, .int .i64 vb, .int .i64 vc, .int .i64 vd, .int .i64 ve] 65) = w5 := ⟨_, rfl⟩
    have B5 : Hid (Below B w w5) := by rw [← hw5]; exact BA.out _ _ _ B4
    have D5 : w5.heap[J]? = some (.cells #[.int .i64 va, .int .i64 vb, .int .i64 vc, .int .i64 vd, .int .i64 ve] 65 (0, 0)) := by rw [← hw5, ← hJ]; exact heap_alloc_new _ _
    obtain ⟨y0, y1, y2, y3, y4, -, -, -, -, -⟩ := cells5 w5 J _ _ _ _ _ _ D5
    clear b4 B4 D5 lg hB
    cases o with
    | false =>
      have V := Lib.hid (VN1.out rfl)
      have hprm := VZ.out rfl
      simp only [prm, Value.agg.injEq, Array.mk.injEq, List.cons.injEq, Value.int.injEq, true_and, and_true] at hprm
      have v9 : IntKind.i64.wrap (vd - 1) = -1 := by rw [hprm.2.2.2.1]; decide
      clear hprm
      have vd1 : Hid True := trivial
      go_wp2
      try rw [hw5]
      go_ret
      exact ⟨by rw [V.out]; rfl, by rw [HB.out]; exact B5.out⟩
    | true =>
      obtain ⟨z2, z32⟩ := KZ.out rfl
      obtain ⟨rz, hprm⟩ := VV.out rfl
      simp only [prm, Value.agg.injEq, Array.mk.injEq, List.cons.injEq, Value.int.injEq, true_and, and_true] at hprm
      obtain ⟨rfl, -, -, rfl, rfl⟩ := hprm
      have sq : z * z ≤ 32 * 32 := Nat.mul_le_mul z32 z32
      have sqI : (z : Int) * (z : Int) = ((z * z : Nat) : Int) := by rw [Int.natCast_mul]
      obtain ⟨y, hy⟩ : ∃ y : Nat, z = y + 1 := ⟨z - 1, by omega⟩
      have e1 : (z : Int) - 1 = (y : Int) := by omega
      have sy : y * y ≤ 32 * 32 := Nat.mul_le_mul (by omega) (by omega)
      have syI : (y : Int) * (y : Int) = ((y * y : Nat) : Int) := by rw [Int.natCast_mul]
      have v2 : IntKind.i64.wrap ((z : Int) - 1) = (y : Int) := by rw [e1]; exact IntWalk.i64_in _ (by omega)
      have v3 := IntWalk.i64_in ((y : Int) * (y : Int)) (by omega)
      have v4 := IntWalk.i64_in ((y : Int) * (y : Int) + (y : Int)) (by omega)
      have v5 := IntWalk.i64_in ((y : Int) * (y : Int) + (y : Int) + 1) (by omega)
      have v6 : IntKind.i64.wrap (((z : Int) - 1) * ((z : Int) - 1)) = (y : Int) * (y : Int) := by rw [e1]; exact v3
      have v7 : IntKind.i64.wrap (((z : Int) - 1) * ((z : Int) - 1) + ((z : Int) - 1)) = (y : Int) * (y : Int) + (y : Int) := by rw [e1]; exact v4
      have v8 : IntKind.i64.wrap (((z : Int) - 1) * ((z : Int) - 1) + ((z : Int) - 1) + 1) = (y : Int) * (y : Int) + (y : Int) + 1 := by rw [e1]; exact v5
      have EQ : Hid (((z : Int) - 1) * ((z : Int) - 1) + z = (y : Int) * (y : Int) + (y : Int) + 1) := by unfold Hid; rw [e1]; omega
      have E1 := Lib.hid e1
      by_cases q1 : ve = 1
      · subst q1
        by_cases qb : (N : Int) = (y : Int) * y + y + 1
        · have t2 : ((N : Int) != (y : Int) * (y : Int) + (y : Int) + 1) = false := by simpa using qb
          have t2' : ((N : Int) != ((z : Int) - 1) * ((z : Int) - 1) + ((z : Int) - 1) + 1) = false := by rw [e1]; exact t2
          by_cases qc : 3 ≤ z
          · have t3 : decide ((y : Int) < 2) = false := decide_eq_false (by omega)
            have t3' : decide ((z : Int) - 1 < 2) = false := decide_eq_false (by omega)
            have V0 := VP.out rfl rfl qc (by rw [EQ.out]; exact qb)
            have V : Hid (ProjectiveOrder_0 N xss = (z : Int) - 1) := V0
            have V' : Hid (ProjectiveOrder_0 N xss = (y : Int)) := by unfold Hid; rw [V0]; exact e1
            clear qb V0 e1 hy sq sqI sy syI
            go_wp2
            try rw [hw5]
            go_ret
            exact ⟨by first | (rw [V.out]; rfl) | (rw [V'.out]; rfl), by rw [HB.out]; exact B5.out⟩
          · have t3 : decide ((y : Int) < 2) = true := decide_eq_true (by omega)
            have t3' : decide ((z : Int) - 1 < 2) = true := decide_eq_true (by omega)
            have V : Hid (ProjectiveOrder_0 N xss = 0) := by
              by_cases qa : (N : Int) = (z : Int) * z
              · exact VA.out rfl rfl z2 qa
              · exact VO.out qa (fun h => qc h.1)
            clear qb e1 hy sq sqI sy syI
            go_wp2
            try rw [hw5]
            go_ret
            exact ⟨by rw [V.out]; rfl, by rw [HB.out]; exact B5.out⟩
        · have t2 : ((N : Int) != (y : Int) * (y : Int) + (y : Int) + 1) = true := by simpa using qb
          have t2' : ((N : Int) != ((z : Int) - 1) * ((z : Int) - 1) + ((z : Int) - 1) + 1) = true := by rw [e1]; exact t2
          have V : Hid (ProjectiveOrder_0 N xss = 0) := by
            by_cases qa : (N : Int) = (z : Int) * z
            · exact VA.out rfl rfl z2 qa
            · exact VO.out qa (fun h => qb (by rw [← EQ.out]; exact h.2))
          by_cases qc : 3 ≤ z
          · have t3 : decide ((y : Int) < 2) = false := decide_eq_false (by omega)
            have t3' : decide ((z : Int) - 1 < 2) = false := decide_eq_false (by omega)
            clear e1 hy sq sqI sy syI
            replace qb := Lib.hid qb
            go_wp2
            try rw [hw5]
            go_ret
            exact ⟨by rw [V.out]; rfl, by rw [HB.out]; exact B5.out⟩
          · have t3 : decide ((y : Int) < 2) = true := decide_eq_true (by omega)
            have t3' : decide ((z : Int) - 1 < 2) = true := decide_eq_true (by omega)
            clear e1 hy sq sqI sy syI
            replace qb := Lib.hid qb
            go_wp2
            try rw [hw5]
            go_ret
            exact ⟨by rw [V.out]; rfl, by rw [HB.out]; exact B5.out⟩
      · have t1 : (ve != 1) = true := by simpa using q1
        have V := Lib.hid (VN2.out q1)
        replace q1 := Lib.hid q1
        by_cases qc : 3 ≤ z
        · have t3 : decide ((y : Int) < 2) = false := decide_eq_false (by omega)
          clear e1 hy sq sqI sy syI
          go_wp2
          try rw [hw5]
          go_ret
          exact ⟨by rw [V.out]; rfl, by rw [HB.out]; exact B5.out⟩
        · have t3 : decide ((y : Int) < 2) = true := decide_eq_true (by omega)
          clear e1 hy sq sqI sy syI
          go_wp2
          try rw [hw5]
          go_ret
          exact ⟨by rw [V.out]; rfl, by rw [HB.out]; exact B5.out⟩

end
end Go.Proofs.YtdhlnagkhkcoiaaGreatDoor
