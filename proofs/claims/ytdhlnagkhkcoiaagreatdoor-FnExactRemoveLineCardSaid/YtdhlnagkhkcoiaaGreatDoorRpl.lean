/- Replications: the program's numbers, the model, and both exported functions. -/
import Derived.Test.YtdhlnagkhkcoiaaGreatDoorAtp
import Derived.Test.YtdhlnagkhkcoiaaGreatDoorWb
import Derived.Test.YtdhlnagkhkcoiaaGreatDoorInc
import Derived.Test.YtdhlnagkhkcoiaaGreatDoorDok
namespace Go.Proofs.YtdhlnagkhkcoiaaGreatDoor
open Go.RowKit Go.Shelf
set_option linter.unusedVariables false

theorem cnt_cut {m : Nat} {P : Nat → Bool} : ∀ {q : Nat}, m ≤ q → cnt q (fun i => decide (i < m) && P i) = cnt m P
  | 0, h => by obtain rfl : m = 0 := by omega
               rfl
  | q + 1, h => by
    by_cases e : m = q + 1
    · subst e
      exact cnt_congr fun i hi => by simp [hi]
    · rw [cnt, cnt_cut (by omega : m ≤ q)]
      have : ¬ q < m := by omega
      simp [this]
theorem rep_cnt {n m x : Nat} {S c : Nat → Nat} (h : Rep n (atP S m) c) (hx : x < n) (hm : m ≤ 128) :
    cnt 64 (fun i => (c (x * 2)).testBit i) + cnt 64 (fun i => (c (x * 2 + 1)).testBit i) = cnt m (fun i => (S i).testBit x) := by
  rw [← cnt_cut hm, show 128 = 64 + 64 from rfl, cnt_add 64 _ 64]
  congr 1
  · refine cnt_congr fun i hi => ?_
    have := (h x hx i (by omega)).2
    rw [show i / 64 = 0 by omega, show i % 64 = i by omega, Nat.add_zero, Nat.mul_comm] at this
    exact this
  · refine cnt_congr fun i hi => ?_
    have := (h x hx (64 + i) (by omega)).2
    rw [show (64 + i) / 64 = 1 by omega, show (64 + i) % 64 = i by omega, Nat.mul_comm] at this
    exact this
/-- How many of the first m sets hold each point. -/
def repL (n m : Nat) (P : Nat → Nat → Bool) : List Int := (List.range n).map (fun x => ((cnt m (fun i => P i x) : Nat) : Int))
theorem repL_len (n m : Nat) (P : Nat → Nat → Bool) : (repL n m P).length = n := by simp [repL]
theorem repL_getD (n m : Nat) (P : Nat → Nat → Bool) (x : Nat) (h : x < n) : (repL n m P).getD x 0 = ((cnt m (fun i => P i x) : Nat) : Int) := by simp [repL, List.getD, h]
theorem repL_congr {n m : Nat} {P Q : Nat → Nat → Bool} (h : ∀ i x, i < m → P i x = Q i x) : repL n m P = repL n m Q := by
  unfold repL
  exact List.map_congr_left fun x _ => by rw [cnt_congr (fun i hi => h i x hi)]

set_option maxRecDepth 100000 in
set_option maxHeartbeats 2000000 in
theorem irepl (n m : Nat) (h1 : 1 ≤ n) (h32 : n ≤ 32) (hm : m ≤ 128) (S : Nat → Nat) (g : Nat) (w : World) (hU : Ub w g m S) (hS : ∀ i, i < m → S i < 4294967296) (hP : ∀ i, i < m → ∀ k, (S i).testBit k = true → k < n) (ht : Tab w) :
    Calls Tryz.prog 89 #[.agg #[.int .i64 (n : Int), .slice (some ⟨g, 0, none⟩) m m]] w fun e w' => ∃ v, e = .returned v ∧ Ints w' w.heap.size v (repL n m (fun i x => (S i).testBit x)) ∧ Below w.heap.size w w' := by
  obtain ⟨B, hB⟩ : ∃ B, w.heap.size = B := ⟨_, rfl⟩
  have hpos : 0 < B := by rw [← hB]; exact ht.pos
  have lg : g < B := by rw [← hB]; exact hU.lt
  obtain ⟨w1, hw1⟩ : ∃ w1, w.alloc (.cells #[.int .i64 (n : Int), .slice (some ⟨g, 0, none⟩) m m] 45) = w1 := ⟨_, rfl⟩
  have z1 : w1.heap.size = B + 1 := by rw [← hw1, World.size_alloc, hB]
  have b1 : Below B w w1 := by rw [← hw1]; exact (Below.refl _ _).alloc (by omega) _
  have A1 : w1.heap[B]? = some (.cells #[.int .i64 (n : Int), .slice (some ⟨g, 0, none⟩) m m] 45 (0, 0)) := by rw [← hw1, ← hB]; exact heap_alloc_new _ _
  have c0 : w1.cell? ⟨B, 0, none⟩ = some (.int .i64 (n : Int)) := by rw [cell_of_row w1 B 0 _ _ _ A1]; rfl
  have hmk := fun W : World => run_make_row' (P := Tryz.prog) 40 2 (.int .i64 0) 8 Tryz.underlying40 Tryz.infoInt rfl .i64 .i64 n (by omega) (by omega) W
  obtain ⟨w2, hw2⟩ : ∃ w2, w1.alloc (.cells (madeCells #[.int .i64 0] n) 2) = w2 := ⟨_, rfl⟩
  have z2 : w2.heap.size = B + 2 := by rw [← hw2, World.size_alloc, z1]
  have b2 : Below B w w2 := by rw [← hw2]; exact b1.alloc (by omega) _
  have A2 : w2.heap[B]? = some (.cells #[.int .i64 (n : Int), .slice (some ⟨g, 0, none⟩) m m] 45 (0, 0)) := by rw [← hw2]; exact (heap_alloc_old _ _ (by omega)).trans A1
  have c1 : w2.cell? ⟨B, 0, none⟩ = some (.int .i64 (n : Int)) := by rw [cell_of_row w2 B 0 _ _ _ A2]; rfl
  have c2 : w2.cell? ⟨B, 1, none⟩ = some (.slice (some ⟨g, 0, none⟩) m m) := by rw [cell_of_row w2 B 1 _ _ _ A2]; rfl
  have RL := Lib.hid (repL_len n m (fun i x => (S i).testBit x))
  obtain ⟨xs, hxs⟩ : ∃ xs, repL n m (fun i x => (S i).testBit x) = xs := ⟨_, rfl⟩
  rw [hxs] at RL ⊢
  have XV : Hid (∀ x, x < n → xs.getD x 0 = ((cnt m (fun i => (S i).testBit x) : Nat) : Int)) := fun x hx => by rw [← hxs]; exact repL_getD n m _ x hx
  have hrow0 : Hid (w2.ownsRow B 2 1 (.slice (some ⟨B + 1, 0, none⟩) n n) n ((xs.take 0 ++ List.replicate (n - 0) (0 : Int)).map (Value.int .i64))) := by
    have := World.ownsRow_lit (base := B) (e := 2) (size := 1) w1 (madeCells #[.int .i64 0] n) n (by omega) (by unfold maxLen; omega) (by simp [size_madeCells])
    rw [toList_madeCells_one, z1, hw2] at this
    unfold Hid
    simpa using this
  have HA := Lib.hid (iAt n m h1 h32 hm S g w2 (hU.below b2 lg) hS hP (ht.below b2 hpos))
  rw [z2] at HA
  have RC := Lib.hid (fun c (h : Rep n (atP S m) c) x (hx : x < n) => rep_cnt h hx hm)
  have RB := Lib.hid (fun c (h : Rep n (atP S m) c) x (hx : x < n) => And.intro (show c (x * 2) < 18446744073709551616 from by have := (h x hx 0 (by omega)).1; rwa [Nat.zero_div, Nat.add_zero, Nat.mul_comm] at this) (show c (x * 2 + 1) < 18446744073709551616 from by have := (h x hx 64 (by omega)).1; rwa [show 64 / 64 = 1 from rfl, Nat.mul_comm] at this))
  have CL := Lib.hid (fun x => cnt_le (fun i => (S i).testBit x) m)
  have HB := Lib.hid hB
  have B2 := Lib.hid b2
  have CS := Lib.hid (fun j (h : j < xs.length) (hn : xs.length = n) => copy_set xs j n h hn)
  clear hU hS hP ht b1 A1 b2 A2 lg hpos hxs
  go_enter Tryz.func89, Tryz.ntmps89
  go_wp2_with fail
  try rw [hw2]
  refine HA.out.mono ?_
  rintro e w3 ⟨g2, c, rfl, hg2, hW, hR, b3⟩
  have W3 := Lib.hid hW
  have R3 := Lib.hid hR
  have B3 : Hid (Below B w w3) := B2.out.trans (b3.mono (by omega))
  have row3 : Hid (w3.ownsRow B 2 1 (.slice (some ⟨B + 1, 0, none⟩) n n) n ((xs.take 0 ++ List.replicate (n - 0) (0 : Int)).map (Value.int .i64))) :=
    World.ownsRow.kept (row := none) hrow0.out ⟨b3.os, b3.tape, b3.output, by have := b3.size; omega, fun k hk _ => b3.block k (by omega)⟩ (by simp [Value.ownBlock])
  have z3 : g2 < w3.heap.size := hW.lt
  clear hw1 hw2 hmk c0 c1 c2 hB z1 hW hR b3 hrow0 HA
  go_wp2
  go_loopw [12] (fun i wr => ∃ x : Nat, x ≤ n ∧ i = .int .i64 x ∧ Hid (wr.ownsRow B 2 1 (.slice (some ⟨B + 1, 0, none⟩) n n) n ((xs.take x ++ List.replicate (n - x) (0 : Int)).map (Value.int .i64))) ∧ Hid (Wb wr g2 (n * 2) c) ∧ Hid (Below B w wr) ∧ g2 < wr.heap.size) (fun i _ => n - (intOf i).toNat)
  case atStart => exact ⟨0, by omega, rfl, row3, W3, B3, z3⟩
  case round =>
    obtain ⟨x, hx, rfl, ho, hW, hBl, hz⟩ := hrel
    by_cases cx : x < n
    · have k1 : decide (x < n) = true := by simpa using cx
      have k1' : decide ((x : Int) < (n : Int)) = true := decide_eq_true (by omega)
      have w3' := IntWalk.i64_in ((x : Int) + 1) (by omega)
      have x0 : (0 : Int) ≤ (x : Int) := by omega
      have x1 : (x : Int) < (n : Int) := by omega
      have m1 := hW.out.cell (x * 2) (by omega)
      have m2 := hW.out.cell (x * 2 + 1) (by omega)
      obtain ⟨bnd1, bnd2⟩ := RB.out c R3.out x cx
      have HC := RC.out c R3.out x cx
      have HL := CL.out x
      have HV := XV.out x cx
      obtain ⟨a, ha⟩ : ∃ a, c (x * 2) = a := ⟨_, rfl⟩
      obtain ⟨b, hb⟩ : ∃ b, c (x * 2 + 1) = b := ⟨_, rfl⟩
      rw [ha] at m1 bnd1 HC
      rw [hb] at m2 bnd2 HC
      have HS := Lib.hid (fun W => isize2 a b bnd1 bnd2 W)
      rw [HC] at HS
      obtain ⟨q, hq⟩ : ∃ q, cnt m (fun i => (S i).testBit x) = q := ⟨_, rfl⟩
      rw [hq] at HS HV
      have HVV := Lib.hid HV
      obtain ⟨w4, hw4⟩ : ∃ w4, wr.alloc (.cells #[.int .u64 a, .int .u64 b] 140) = w4 := ⟨_, rfl⟩
      have N4 : w4.heap[wr.heap.size]? = some (.cells #[.int .u64 a, .int .u64 b] 140 (0, 0)) := by rw [← hw4]; exact heap_alloc_new _ _
      have n41 : w4.cell? ⟨wr.heap.size, 0, none⟩ = some (.int .u64 a) := by rw [cell_of_row w4 _ 0 _ _ _ N4]; rfl
      have n42 : w4.cell? ⟨wr.heap.size, 1, none⟩ = some (.int .u64 b) := by rw [cell_of_row w4 _ 1 _ _ _ N4]; rfl
      have b4 : Below wr.heap.size wr w4 := by rw [← hw4]; exact (Below.refl _ _).alloc (Nat.le_refl _) _
      clear ha hb HC hq HL HV bnd1 bnd2 N4
      go_wp2_with fail
      try rw [hw4]
      refine (HS.out _).mono ?_
      rintro e w5 ⟨rfl, b5⟩
      have b45 : Below wr.heap.size wr w5 := b4.trans (b5.mono b4.size)
      have W5 := Lib.hid (hW.out.below b45 hz)
      have zz : B ≤ wr.heap.size := by have := hBl.out.size; have := HB.out; omega
      have B5 : Hid (Below B w w5) := hBl.out.trans (b45.mono zz)
      have z5 : g2 < w5.heap.size := Nat.lt_of_lt_of_le hz b45.size
      have row5 : Hid (w5.ownsRow B 2 1 (.slice (some ⟨B + 1, 0, none⟩) n n) n ((xs.take x ++ List.replicate (n - x) (0 : Int)).map (Value.int .i64))) :=
        World.ownsRow.kept (row := none) ho.out ⟨b45.os, b45.tape, b45.output, b45.size, fun k hk _ => b45.block k (by omega)⟩ (by simp [Value.ownBlock])
      obtain ⟨old, hold⟩ : ∃ old, w5.cell? ⟨B + 1, x, none⟩ = some old := by
        rw [row5.out.cellAt x (by omega), List.getElem?_eq_getElem (by have := row5.out.1; omega)]; exact ⟨_, rfl⟩
      have hf : w5.frozen? ⟨B + 1, x, none⟩ = false := row5.out.frozenAt x
      have hst := row5.out.stored x (.int .i64 (q : Int))
      have S1 : Hid ((w5.setCell ⟨B + 1, x, none⟩ (.int .i64 (q : Int))).ownsRow B 2 1 (.slice (some ⟨B + 1, 0, none⟩) n n) n ((xs.take (x + 1) ++ List.replicate (n - (x + 1)) (0 : Int)).map (Value.int .i64))) := by
        have := hst.1
        rw [← List.map_set, ← HVV.out, CS.out x (by rw [RL.out]; exact cx) RL.out, HVV.out] at this
        exact this
      have W6 : Hid (Wb (w5.setCell ⟨B + 1, x, none⟩ (.int .i64 (q : Int))) g2 (n * 2) c) := (Below.heap_setCell _ _ _ g2 (by simp only; omega)).trans W5.out
      have B6 : Hid (Below B w (w5.setCell ⟨B + 1, x, none⟩ (.int .i64 (q : Int)))) := B5.out.setCell (p := ⟨B + 1, x, none⟩) (by simp only; omega) _
      have z6 : g2 < (w5.setCell ⟨B + 1, x, none⟩ (.int .i64 (q : Int))).heap.size := by simpa [World.setCell] using z5
      clear hst b4 b5 b45 hw4 ho hW hBl n41 n42
      go_wp2
      go_roundw
      case rel => exact ⟨x + 1, by omega, by go_num, S1, W6, B6, z6⟩
      case measure => simp [intOf]; omega
    · have k1 : decide (x < n) = false := by simpa using cx
      have k1' : decide ((x : Int) < (n : Int)) = false := decide_eq_false (by omega)
      obtain rfl : x = n := by omega
      go_wp2
      go_ret
      refine ⟨_, rfl, ?_, by rw [HB.out]; exact hBl.out⟩
      have := ho.out
      rw [Nat.sub_self, List.replicate_zero, List.append_nil, List.take_of_length_le (by rw [RL.out]; exact Nat.le_refl _)] at this
      unfold Ints
      rw [HB.out, RL.out]
      exact this

/-! Replications: the model. -/
section
open Go.RowKit Go.Shelf
set_option linter.unusedVariables false

def memP (xss : List (List Int)) (i x : Nat) : Bool := decide ((x : Int) ∈ xss.getD i [])
theorem sorted_notin {xs : List Int} (h : xs.Pairwise (· < ·)) {k : Nat} (hk : k < xs.length) : xs.getD k 0 ∉ xs.take k := fun hm => by
  have e : xs = xs.take k ++ xs.drop k := (List.take_append_drop k xs).symm
  rw [e, List.pairwise_append] at h
  have hd : xs.getD k 0 ∈ xs.drop k := by
    rw [List.getD_eq_getElem?_getD, List.getElem?_eq_getElem hk, List.drop_eq_getElem_cons hk]
    exact List.mem_cons_self ..
  have := h.2.2 _ hm _ hd
  omega
def stL (n : Nat) (f : Nat → Nat) : List Int := (List.range n).map (fun x => ((f x : Nat) : Int))
theorem stL_set (n : Nat) (f : Nat → Nat) (t v : Nat) : (stL n f).set t ((v : Nat) : Int) = stL n (updN f t v) := by
  apply List.ext_getElem?
  intro j
  rw [List.getElem?_set]
  by_cases hj : j < n
  · have e : (stL n (updN f t v))[j]? = some ((updN f t v j : Nat) : Int) := by simp [stL, hj]
    have e2 : (stL n f)[j]? = some ((f j : Nat) : Int) := by simp [stL, hj]
    rw [e]
    unfold updN
    by_cases c : t = j
    · subst c
      rw [if_pos rfl, if_pos (by simp [stL, hj])]; simp
    · rw [if_neg c, e2, if_neg (fun h => c h.symm)]
  · have l1 : (stL n f).length = n := by simp [stL]
    have l2 : (stL n (updN f t v)).length = n := by simp [stL]
    rw [List.getElem?_eq_none (by omega : (stL n (updN f t v)).length ≤ j)]
    split
    · rw [if_neg (by omega)]
    · exact List.getElem?_eq_none (by omega)
theorem stL_congr {n : Nat} {f h : Nat → Nat} (e : ∀ x, x < n → f x = h x) : stL n f = stL n h := by
  unfold stL
  exact List.map_congr_left fun x hx => by rw [e x (List.mem_range.1 hx)]
/-- How often each point stands in the first i blocks and the first k points of the next one. -/
def tillF (xss : List (List Int)) (i : Nat) (xs : List Int) (x : Nat) : Nat := cnt i (fun j => memP xss j x) + if (x : Int) ∈ xs then 1 else 0
theorem till_nil (xss : List (List Int)) (i x : Nat) : tillF xss i [] x = cnt i (fun j => memP xss j x) := by unfold tillF; simp
theorem till_all (xss : List (List Int)) (i x : Nat) : tillF xss i (xss.getD i []) x = cnt (i + 1) (fun j => memP xss j x) := by
  unfold tillF memP
  rw [cnt]
  congr 1
  simp
theorem till_snoc (xss : List (List Int)) (i : Nat) (xs : List Int) (t : Nat) (h : (t : Int) ∉ xs) (x : Nat) : updN (tillF xss i xs) t (tillF xss i xs t + 1) x = tillF xss i (xs ++ [(t : Int)]) x := by
  unfold updN tillF
  by_cases e : x = t
  · subst e
    rw [if_pos rfl, if_neg h, if_pos (by simp)]
  · have ne : ¬ (x : Int) = (t : Int) := by omega
    rw [if_neg e]
    congr 1
    by_cases c : (x : Int) ∈ xs
    · rw [if_pos c, if_pos (by simp [c])]
    · rw [if_neg c, if_neg (by simp [c, ne])]
theorem till_le (xss : List (List Int)) (i : Nat) (xs : List Int) (x : Nat) : tillF xss i xs x ≤ i + 1 := by
  have := cnt_le (fun j => memP xss j x) i
  unfold tillF
  split <;> omega

set_option maxRecDepth 100000 in
set_option maxHeartbeats 2000000 in
theorem sRepl (n : Nat) (h32 : n ≤ 32) (xss : List (List Int)) (hm : xss.length ≤ 128) (hb : ∀ i, i < xss.length → isBlk (n : Int) (xss.getD i [])) (w : World) (v : Value) (g : Nat) (c0 : w.cell? ⟨g, 0, none⟩ = some (.int .i64 (n : Int))) (c1 : w.cell? ⟨g, 1, none⟩ = some v) (hv : RowsAt w v xss) :
    Calls Tryz.prog 64 #[.pointer (some ⟨g, 0, none⟩)] w fun e w' => ∃ r, e = .returned r ∧ Ints w' w.heap.size r (repL n xss.length (memP xss)) ∧ Below w.heap.size w w' := by
  obtain ⟨a, cap, rfl, K⟩ := hv.rowsIn
  obtain ⟨m, hmm⟩ : ∃ m, xss.length = m := ⟨_, rfl⟩
  obtain ⟨B, hB⟩ : ∃ B, w.heap.size = B := ⟨_, rfl⟩
  rw [hmm] at c1 K hb hm ⊢
  rw [hB] at K
  have lg : g < B := by rw [← hB]; exact World.block_lt_of_cell? w _ c0
  have hmk := fun W : World => run_make_row' (P := Tryz.prog) 40 2 (.int .i64 0) 8 Tryz.underlying40 Tryz.infoInt rfl .i64 .i64 n (by omega) (by omega) W
  obtain ⟨w1, hw1⟩ : ∃ w1, w.alloc (.cells (madeCells #[.int .i64 0] n) 2) = w1 := ⟨_, rfl⟩
  have B1 : Hid (Below B w w1) := by unfold Hid; rw [← hw1]; exact (Below.refl _ _).alloc (by omega) _
  have hrow0 : Hid (w1.ownsRow B 2 1 (.slice (some ⟨B, 0, none⟩) n n) n ((stL n (fun x => tillF xss 0 [] x)).map (Value.int .i64))) := by
    have := World.ownsRow_lit (base := B) (e := 2) (size := 1) w (madeCells #[.int .i64 0] n) n (by omega) (by unfold maxLen; omega) (by simp [size_madeCells])
    rw [toList_madeCells_one, hB, hw1] at this
    unfold Hid
    have e : (stL n (fun x => tillF xss 0 [] x)).map (Value.int .i64) = List.replicate n (.int .i64 0) := by
      unfold stL
      rw [List.map_map]
      apply List.ext_getElem (by simp)
      intro j h1 h2
      simp [till_nil, cnt]
    rw [e]; exact this
  have DC := Lib.hid (fun W (h : Below B w W) => And.intro (show W.cell? ⟨g, 0, none⟩ = some (.int .i64 (n : Int)) from (h.cell (p := ⟨g, 0, none⟩) lg).trans c0) (show W.cell? ⟨g, 1, none⟩ = some (.slice a m cap) from (h.cell (p := ⟨g, 1, none⟩) lg).trans c1))
  have HK := Lib.hid K
  have BL := Lib.hid hb
  have EA := Lib.hid (fun i => (stL_congr (n := n) (fun x _ => till_all xss i x)))
  have EN := Lib.hid (fun i => (stL_congr (n := n) (fun x _ => (till_nil xss i x).symm)))
  have RE : Hid (repL n m (memP xss) = stL n (fun x => cnt m (fun j => memP xss j x))) := rfl
  have LE := Lib.hid (fun i xs x => till_le xss i xs x)
  have SN := Lib.hid (fun i xs t h => stL_congr (n := n) (fun x _ => till_snoc xss i xs t h x))
  have HB := Lib.hid hB
  clear hv K hb lg
  go_enter Tryz.func64, Tryz.ntmps64
  go_wp2
  try rw [hw1]
  try rw [hB]
  clear hw1 hmk hB c0 c1
  go_loopw [4] (fun i wr => ∃ j : Nat, j ≤ m ∧ i = .int .i64 j ∧ Hid (wr.ownsRow B 2 1 (.slice (some ⟨B, 0, none⟩) n n) n ((stL n (fun x => tillF xss j [] x)).map (Value.int .i64))) ∧ Hid (Below B w wr)) (fun i _ => m - (intOf i).toNat)
  case atStart => exact ⟨0, by omega, rfl, hrow0, B1⟩
  case round =>
    obtain ⟨j, hj, rfl, ho, hBl⟩ := hrel
    obtain ⟨c0, c1⟩ := DC.out wr hBl.out
    by_cases cj : j < m
    · have k1 : decide (j < m) = true := by simpa using cj
      have k1' : decide ((j : Int) < (m : Int)) = true := decide_eq_true (by omega)
      have w3 := IntWalk.i64_in ((j : Int) + 1) (by omega)
      have j0 : (0 : Int) ≤ (j : Int) := by omega
      have j1 : (j : Int) < (m : Int) := by omega
      have bk := BL.out j cj
      obtain ⟨r, hr⟩ : ∃ r, xss.getD j [] = r := ⟨_, rfl⟩
      obtain ⟨l, hl⟩ : ∃ l, r.length = l := ⟨_, rfl⟩
      rw [hr] at bk
      have KJ : Hid (∀ W, Below B w W → ∃ g off ua uc, a = some ⟨g, off, none⟩ ∧ W.cell? ⟨g, off + j, none⟩ = some (.slice ua l uc) ∧ ∀ k, k < l → ∃ g' off', ua = some ⟨g', off', none⟩ ∧ W.cell? ⟨g', off' + k, none⟩ = some (.int .i64 (r.getD k 0))) := fun W hW => by
        obtain ⟨g1, o1, u, e1, e2, e3⟩ := HK.out W hW j cj
        rw [hr] at e3
        obtain ⟨ua, uc, rfl, -, e4⟩ := e3.shape
        rw [hl] at e2 e4
        exact ⟨g1, o1, ua, uc, e1, e2, e4⟩
      have XJ : Hid (∀ k, k < l → (∃ t : Nat, t < n ∧ r.getD k 0 = t) ∧ r.take (k + 1) = r.take k ++ [r.getD k 0] ∧ r.getD k 0 ∉ r.take k) := fun k hk => by
        have q := bk.2 k (by omega)
        refine ⟨⟨(r.getD k 0).toNat, by have := q.1; have := q.2.1; omega, by have := q.1; omega⟩, take_getD (by omega), sorted_notin (rises_sorted bk.2) (by omega)⟩
      have TE : Hid (stL n (fun x => tillF xss j (r.take l) x) = stL n (fun x => tillF xss (j + 1) [] x)) := by
        unfold Hid
        rw [← hl, List.take_length, ← hr]
        exact (EA.out j).trans (EN.out (j + 1))
      have ho2 : Hid (wr.ownsRow B 2 1 (.slice (some ⟨B, 0, none⟩) n n) n ((stL n (fun x => tillF xss j (r.take 0) x)).map (Value.int .i64))) := by
        rw [List.take_zero]; exact ho
      have ll : l ≤ 9223372036854775807 := by
        obtain ⟨g1, o1, u, e1, e2, e3⟩ := HK.out wr hBl.out j cj
        rw [hr] at e3
        have := e3.1
        omega
      obtain ⟨wq, rfl⟩ : ∃ wq : World, wq = wr := ⟨_, rfl⟩
      clear bk hr hl ho
      go_wp2
      clear c0 c1
      go_loopw [5] (fun i wr => ∃ k : Nat, k ≤ l ∧ i = .int .i64 k ∧ Hid (wr.ownsRow B 2 1 (.slice (some ⟨B, 0, none⟩) n n) n ((stL n (fun x => tillF xss j (r.take k) x)).map (Value.int .i64))) ∧ Hid (Below B w wr)) (fun i _ => l - (intOf i).toNat)
      case atStart => exact ⟨0, by omega, rfl, ho2, hBl⟩
      case round =>
        obtain ⟨k, hk, rfl, ho3, hBl2⟩ := hrel
        obtain ⟨c0, c1⟩ := DC.out wr hBl2.out
        obtain ⟨g1, o1, ua, uc, ha, hu, hcells⟩ := KJ.out wr hBl2.out
        subst ha
        by_cases ck : k < l
        · have k2 : decide (k < l) = true := by simpa using ck
          have k2' : decide ((k : Int) < (l : Int)) = true := decide_eq_true (by omega)
          have w4 := IntWalk.i64_in ((k : Int) + 1) (by omega)
          have kk0 : (0 : Int) ≤ (k : Int) := by omega
          have kk1 : (k : Int) < (l : Int) := by omega
          obtain ⟨g2, o2, hua, ck'⟩ := hcells k ck
          subst hua
          obtain ⟨⟨t, htn, hxt⟩, htk, hnt⟩ := XJ.out k ck
          rw [hxt] at ck' htk hnt
          have t0 : (0 : Int) ≤ (t : Int) := by omega
          have t1 : (t : Int) < (n : Int) := by omega
          have le := LE.out j (r.take k) t
          obtain ⟨f, hf⟩ : ∃ f, tillF xss j (r.take k) t = f := ⟨_, rfl⟩
          have old : wr.cell? ⟨B, t, none⟩ = some (.int .i64 (f : Int)) := by
            rw [ho3.out.cellAt t (by omega)]
            simp [stL, htn, hf]
          have fz : wr.frozen? ⟨B, t, none⟩ = false := ho3.out.frozenAt t
          have hst := ho3.out.stored t (.int .i64 ((f + 1 : Nat) : Int))
          have S1 : Hid ((wr.setCell ⟨B, t, none⟩ (.int .i64 ((f : Int) + 1))).ownsRow B 2 1 (.slice (some ⟨B, 0, none⟩) n n) n ((stL n (fun x => tillF xss j (r.take (k + 1)) x)).map (Value.int .i64))) := by
            have := hst.1
            rw [← List.map_set, stL_set, ← hf, SN.out j (r.take k) t hnt, ← htk, hf] at this
            exact this
          have wf := IntWalk.i64_in ((f : Int) + 1) (by omega)
          have B2 : Hid (Below B w (wr.setCell ⟨B, t, none⟩ (.int .i64 ((f : Int) + 1)))) := hBl2.out.setCell (p := ⟨B, t, none⟩) (Nat.le_refl _) _
          clear hst hcells htk hnt hxt hf le ho3
          go_wp2
          go_roundw
          case rel => exact ⟨k + 1, by omega, by go_num, S1, B2⟩
          case measure => simp [intOf]; omega
        · have k2 : decide (k < l) = false := by simpa using ck
          have k2' : decide ((k : Int) < (l : Int)) = false := decide_eq_false (by omega)
          obtain rfl : k = l := by omega
          rw [TE.out] at ho3
          clear hcells
          go_wp2
          go_roundw
          case rel => exact ⟨j + 1, by omega, by go_num, ho3, hBl2⟩
          case measure => simp [intOf]; omega
    · have k1 : decide (j < m) = false := by simpa using cj
      have k1' : decide ((j : Int) < (m : Int)) = false := decide_eq_false (by omega)
      obtain rfl : j = m := by omega
      go_wp2
      go_ret
      refine ⟨_, rfl, ?_, by rw [HB.out]; exact hBl.out⟩
      have := ho.out
      rw [← EN.out] at this
      unfold Ints
      rw [HB.out, RE.out, show (stL n (fun x => cnt j (fun i => memP xss i x))).length = n from by simp [stL]]
      exact this
end
end Go.Proofs.YtdhlnagkhkcoiaaGreatDoor
