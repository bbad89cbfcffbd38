/- The forest of the parallel classes: newForest, root, join. -/
import Derived.Test.YtdhlnagkhkcoiaaDoorIa
import Derived.Test.YtdhlnagkhkcoiaaDoorPla
import Derived.Test.YtdhlnagkhkcoiaaDoorPlm
import Derived.Test.YtdhlnagkhkcoiaaDoorGrw

namespace Go.Proofs.YtdhlnagkhkcoiaaDoor
open Go.RowKit Go.Shelf
set_option linter.unusedVariables false
set_option linter.unusedSimpArgs false

theorem Tryd.infoG : (Tryd.prog.info? 3).map (fun i => (i.zero, i.size, i.bytes)) = some (some (.int .i64 0), 1, 8) := by kernel_rfl
/-- Block g alone is another. -/
structure OnlyG (g : Nat) (w w' : World) : Prop where
  size : w'.heap.size = w.heap.size
  block : ∀ k, k ≠ g → w'.heap[k]? = w.heap[k]?
  below : ∀ B, B ≤ g → Below B w w'
theorem OnlyG.set (g i : Nat) (w : World) (v : Value) : OnlyG g w (w.setCell ⟨g, i, none⟩ v) :=
  ⟨by simp [World.setCell], fun k hk => Below.heap_setCell w ⟨g, i, none⟩ v k hk, fun B hB => (Below.refl B w).setCell (p := ⟨g, i, none⟩) hB v⟩
theorem OnlyG.of_below {g : Nat} {w w1 w' : World} (hb : Below w.heap.size w w1) (h : OnlyG g w1 w') (hs : w1.heap.size = w.heap.size) (hg : g < w.heap.size) : OnlyG g w w' :=
  ⟨by rw [h.size, hs], fun k hk => by
    by_cases c : k < w.heap.size
    · exact (h.block k hk).trans (hb.block k c)
    · rw [Array.getElem?_eq_none (by rw [h.size, hs]; omega), Array.getElem?_eq_none (by omega)], fun B hB => (hb.mono (by omega)).trans (h.below B hB)⟩
theorem Ia.below_same {w : World} {T : TypeId} {g q : Nat} {c : Nat → Int} (h : Ia w T g q c) (i : Nat) (v : Int) (hv : c i = v) : Below w.heap.size w (w.setCell ⟨g, i, none⟩ (.int .i64 v)) := by
  have e := h.set i v
  refine ⟨rfl, rfl, rfl, by rw [(OnlyG.set g i w _).size]; exact Nat.le_refl _, fun k hk => ?_⟩
  by_cases d : k = g
  · subst d
    have e2 : Ia (w.setCell ⟨k, i, none⟩ (.int .i64 v)) T k q c := e.congr fun j _ => by
      by_cases x : j = i
      · subst x; rw [updI_same, hv]
      · rw [updI_ne _ _ _ _ x]
    unfold Ia at e2 h
    rw [e2, h]
  · exact Below.heap_setCell w ⟨g, i, none⟩ _ k d

set_option maxRecDepth 100000 in
set_option maxHeartbeats 1000000 in
theorem inewForest (m : Nat) (hm : m ≤ 128) (w : World) :
    Calls Tryd.prog 60 #[.int .i64 (m : Int)] w fun e w' => ∃ g, e = .returned (.slice (some ⟨g, 0, none⟩) m m) ∧ w.heap.size ≤ g ∧ Ia w' 3 g m (fun x => (x : Int)) ∧ Below w.heap.size w w' := by
  have hmk := run_make_row' (P := Tryd.prog) 92 3 (.int .i64 0) 8 Tryd.underlying92 Tryd.infoG rfl .i64 .i64 m (by omega) (by omega) w
  have I1 := made_ia w 3 m
  have b1 : Below w.heap.size w (w.alloc (.cells (madeCells #[.int .i64 0] m) 3)) := (Below.refl _ _).alloc (Nat.le_refl _) _
  obtain ⟨w1, hw1⟩ : ∃ w1, w.alloc (.cells (madeCells #[.int .i64 0] m) 3) = w1 := ⟨_, rfl⟩
  rw [hw1] at hmk I1 b1
  obtain ⟨B, hB⟩ : ∃ B, w.heap.size = B := ⟨_, rfl⟩
  rw [hB] at hmk I1 b1 ⊢
  have I1 : Hid (Ia w1 3 B m (fun x => if x < 0 then (x : Int) else 0)) := I1.congr fun x _ => by simp
  have B1 := Lib.hid b1
  have HB := Lib.hid hB
  clear b1 hw1 hB
  go_enter Tryd.func60, Tryd.ntmps60
  go_wp2
  go_loopw [9] (fun i wr => ∃ j : Nat, j ≤ m ∧ i = .int .i64 j ∧ Hid (Ia wr 3 B m (fun x => if x < j then (x : Int) else 0)) ∧ Hid (Below B w wr)) (fun i _ => m - (intOf i).toNat)
  case atStart => exact ⟨0, by omega, rfl, I1, B1⟩
  case round =>
    obtain ⟨j, hj, rfl, hI, hBl⟩ := hrel
    by_cases c : j < m
    · have k1 : decide (j < m) = true := by simpa using c
      have k1' : decide ((j : Int) < (m : Int)) = true := decide_eq_true (by omega)
      have w3 := IntWalk.i64_in ((j : Int) + 1) (by omega)
      have j0 : (0 : Int) ≤ (j : Int) := by omega
      have j1 : (j : Int) < (m : Int) := by omega
      have old := hI.out.cell j c
      have fz := hI.out.frozen j
      have I2 : Hid (Ia (wr.setCell ⟨B, j, none⟩ (.int .i64 (j : Int))) 3 B m (fun x => if x < j + 1 then (x : Int) else 0)) := (hI.out.set j (j : Int)).congr fun x hx => by
        by_cases e : x = j
        · subst e; rw [updI_same]; simp
        · rw [updI_ne _ _ _ _ e]
          by_cases d : x < j
          · rw [if_pos d, if_pos (by omega)]
          · rw [if_neg d, if_neg (by omega)]
      have B2 : Hid (Below B w (wr.setCell ⟨B, j, none⟩ (.int .i64 (j : Int)))) := hBl.out.setCell (p := ⟨B, j, none⟩) (Nat.le_refl B) _
      go_wp2
      go_roundw
      case rel => exact ⟨j + 1, by omega, by go_num, I2, B2⟩
      case measure => simp [intOf]; omega
    · have k1 : decide (j < m) = false := by simpa using c
      have k1' : decide ((j : Int) < (m : Int)) = false := decide_eq_false (by omega)
      obtain rfl : j = m := by omega
      go_wp2
      go_ret
      exact ⟨B, rfl, Nat.le_refl _, hI.out.congr fun x hx => by rw [if_pos hx], hBl.out⟩

/-- Who leads. -/
structure Leads (m : Nat) (f : Nat → Nat) : Prop where
  le : ∀ x, f x ≤ x
  idem : ∀ x, x < m → f (f x) = f x

set_option maxRecDepth 100000 in
set_option maxHeartbeats 1000000 in
theorem iroot (m g i : Nat) (f : Nat → Nat) (hf : Leads m f) (hi : i < m) (hm : m ≤ 128) (w : World) (hI : Ia w 3 g m (fun x => ((f x : Nat) : Int))) :
    Calls Tryd.prog 77 #[.slice (some ⟨g, 0, none⟩) m m, .int .i64 (i : Int)] w fun e w' => e = .returned (.int .i64 ((f i : Nat) : Int)) ∧ Below w.heap.size w w' ∧ w'.heap.size = w.heap.size := by
  have le := hf.le i
  have idm := hf.idem i hi
  have c1 := hI.cell i hi
  have c2 := hI.cell (f i) (by omega)
  have fz := hI.frozen i
  have bs : Hid (Below w.heap.size w (w.setCell ⟨g, i, none⟩ (.int .i64 ((f i : Nat) : Int)))) := hI.below_same i _ rfl
  have ss : Hid ((w.setCell ⟨g, i, none⟩ (.int .i64 ((f i : Nat) : Int))).heap.size = w.heap.size) := (OnlyG.set g i w _).size
  have I2 : Ia (w.setCell ⟨g, i, none⟩ (.int .i64 ((f i : Nat) : Int))) 3 g m (fun x => ((f x : Nat) : Int)) := (hI.set i _).congr fun x _ => by
    by_cases e : x = i
    · subst e; rw [updI_same]
    · rw [updI_ne _ _ _ _ e]
  have d1 := I2.cell i hi
  have d2 := I2.cell (f i) (by omega)
  rw [idm] at c2 d2
  obtain ⟨r, hr⟩ : ∃ r, f i = r := ⟨_, rfl⟩
  rw [hr] at le c1 c2 bs ss d1 d2 ⊢
  clear idm hI I2 hf
  by_cases e : r = i
  · subst e
    have t1 : (((r : Nat) : Int) != ((r : Nat) : Int)) = false := by simp
    have j0 : (0 : Int) ≤ (r : Int) := by omega
    have j1 : (r : Int) < (m : Int) := by omega
    clear hr
    go_enter Tryd.func77, Tryd.ntmps77
    go_wp2
    refine wp_loop_rounds 1 ?_
    rw [rounds_succ]
    go_wp2
    go_ret
    exact ⟨rfl, Below.refl _ _, rfl⟩
  · have t1 : (((r : Nat) : Int) != ((i : Nat) : Int)) = true := by simp; omega
    have t2 : (((r : Nat) : Int) != ((r : Nat) : Int)) = false := by simp
    have j0 : (0 : Int) ≤ (r : Int) := by omega
    have j1 : (r : Int) < (m : Int) := by omega
    have i0 : (0 : Int) ≤ (i : Int) := by omega
    have i1 : (i : Int) < (m : Int) := by omega
    clear hr
    go_enter Tryd.func77, Tryd.ntmps77
    go_wp2
    refine wp_loop_rounds 2 ?_
    rw [rounds_succ]
    go_wp2
    rw [rounds_succ]
    go_wp2
    go_ret
    exact ⟨rfl, bs.out, ss.out⟩

set_option maxRecDepth 100000 in
set_option maxHeartbeats 1000000 in
theorem ijoin (m g i j : Nat) (f : Nat → Nat) (hf : Leads m f) (hi : i < m) (hj : j < m) (hle : f j ≤ f i) (hm : m ≤ 128) (w : World) (hI : Ia w 3 g m (fun x => ((f x : Nat) : Int))) :
    Calls Tryd.prog 62 #[.slice (some ⟨g, 0, none⟩) m m, .int .i64 (i : Int), .int .i64 (j : Int)] w fun e w' => e = .returned (.tuple #[]) ∧ Ia w' 3 g m (fun x => ((if x = f i then f j else f x : Nat) : Int)) ∧ OnlyG g w w' := by
  have lg := hI.lt
  have R1 := Lib.hid (iroot m g i f hf hi hm w hI)
  have R2 := Lib.hid (fun W (h : Ia W 3 g m (fun x => ((f x : Nat) : Int))) => iroot m g j f hf hj hm W h)
  have HI := Lib.hid hI
  have li := hf.le i
  have ST : Hid (∀ W, Ia W 3 g m (fun x => ((f x : Nat) : Int)) → Ia (W.setCell ⟨g, f i, none⟩ (.int .i64 ((f j : Nat) : Int))) 3 g m (fun x => ((if x = f i then f j else f x : Nat) : Int))) := fun W h => (h.set (f i) ((f j : Nat) : Int)).congr fun x _ => by
    by_cases e : x = f i
    · subst e; rw [updI_same, if_pos rfl]
    · rw [updI_ne _ _ _ _ e, if_neg e]
  obtain ⟨F, hF⟩ : ∃ F : Nat → Int, (fun x => ((if x = f i then f j else f x : Nat) : Int)) = F := ⟨_, rfl⟩
  obtain ⟨G, hG⟩ : ∃ G : Nat → Int, (fun x => ((f x : Nat) : Int)) = G := ⟨_, rfl⟩
  rw [hF] at ST ⊢
  rw [hG] at HI R2 ST
  obtain ⟨a, ha⟩ : ∃ a, f i = a := ⟨_, rfl⟩
  obtain ⟨b, hb⟩ : ∃ b, f j = b := ⟨_, rfl⟩
  rw [ha] at R1 li hle ST
  rw [hb] at R2 hle ST
  clear hI hf hF hG ha hb
  have j0 : (0 : Int) ≤ (a : Int) := by omega
  have j1 : (a : Int) < (m : Int) := by omega
  have mx1 : decide ((a : Int) < (b : Int)) = false := decide_eq_false (by omega)
  have mx2 : decide ((b : Int) ≤ (a : Int)) = true := decide_eq_true (by omega)
  go_enter Tryd.func62, Tryd.ntmps62
  go_wp2_with fail
  refine R1.out.mono ?_
  rintro e w1 ⟨rfl, b1, s1⟩
  have I1 : Ia w1 3 g m G := HI.out.below b1 lg
  have HI1 := Lib.hid I1
  have BB1 := Lib.hid b1
  have SS1 := Lib.hid s1
  clear b1 s1
  go_wp2_with fail
  refine (R2.out _ I1).mono ?_
  rintro e w2 ⟨rfl, b2, s2⟩
  have I2 : Ia w2 3 g m G := HI1.out.below b2 (by rw [SS1.out]; exact lg)
  have old := I2.cell a (by omega)
  have fz := I2.frozen a
  have IS := Lib.hid (ST.out w2 I2)
  have OO : Hid (OnlyG g w (w2.setCell ⟨g, a, none⟩ (.int .i64 (b : Int)))) :=
    OnlyG.of_below (BB1.out.trans (b2.mono (by rw [SS1.out]; exact Nat.le_refl _))) (OnlyG.set g a w2 _) (by rw [s2, SS1.out]) lg
  clear b2 s2 I1 I2
  go_wp2
  · go_end0; exact ⟨rfl, IS.out, OO.out⟩
  · have hab : a = b := by omega
    subst hab
    go_end0; exact ⟨rfl, IS.out, OO.out⟩

/-! The forest's classes; the parallel classes: the program's. -/
section
open Go.RowKit Go.Shelf
set_option linter.unusedVariables false
set_option linter.unusedSimpArgs false

theorem RowsL.only {w w' : World} {B L g : Nat} {v : Value} {xss : List (List Int)} (h : RowsL w B L v xss) (o : OnlyG g w w') (hg : g < B) : RowsL w' B L v xss := by
  obtain ⟨us, e, ho, h1, h2, hr, hd⟩ := h
  exact ⟨us, e, ownsRow_of_block ho (fun k e => o.block k (by have := (World.ownsRow.lt ho k e).1; omega)), h1, by rw [o.size]; exact h2,
    fun j hj => ⟨ownsRow_of_block (hr j hj).1 (fun k e => o.block k (by have := (World.ownsRow.lt (hr j hj).1 k e).1; omega)), (hr j hj).2.1, by rw [o.size]; exact (hr j hj).2.2⟩, hd⟩
theorem RowsL.row {w : World} {B L : Nat} {v : Value} {xss : List (List Int)} {n : Nat} (h : RowsL w B L v xss) (hn : xss.length = n) {j : Nat} (hj : j < n) :
    ∃ g cap ub uc, v = .slice (some ⟨g, 0, none⟩) n cap ∧ w.cell? ⟨g, j, none⟩ = some (.slice ub (xss.getD j []).length uc) := by
  obtain ⟨us, e, ho, h1, h2, hr, hd⟩ := h
  have hz := hr j (by omega)
  have ho' := ho
  rcases ho.2 with ⟨_, h3⟩ | ⟨g, cap, cur, rfl, _⟩
  · omega
  · have c := ho'.cellAt j (by omega)
    rw [List.getElem?_eq_getElem (show j < us.length by omega)] at c
    have eu : us.getD j undef = us[j]'(by omega) := by simp [List.getD, show j < us.length by omega]
    rw [eu] at hz
    obtain ⟨ub, uc, e2, _⟩ := hz.at.shape
    rw [e2] at c
    exact ⟨g, cap, ub, uc, by rw [hn], c⟩

set_option maxRecDepth 100000 in
set_option maxHeartbeats 4000000 in
theorem iclasses (m g : Nat) (Q : Nat → Nat → Bool) (hE : Equ m Q) (hm : m ≤ 128) (w : World) (hI : Ia w 3 g m (fun x => ((ldr Q x : Nat) : Int))) :
    Calls Tryd.prog 63 #[.slice (some ⟨g, 0, none⟩) m m] w fun e w' => ∃ v, e = .returned v ∧ RowsL w' w.heap.size w'.heap.size v (clsL Q m) ∧ Below w.heap.size w w' := by
  have lg := hI.lt
  have hmk := run_make_row' (P := Tryd.prog) 91 3 (.int .i64 0) 8 Tryd.underlying91 Tryd.infoG rfl .i64 .i64 m (by omega) (by omega) w
  have I1 := made_ia w 3 m
  have b1 : Below w.heap.size w (w.alloc (.cells (madeCells #[.int .i64 0] m) 3)) := (Below.refl _ _).alloc (Nat.le_refl _) _
  have z1 := World.size_alloc w (.cells (madeCells #[.int .i64 0] m) 3)
  obtain ⟨w1, hw1⟩ : ∃ w1, w.alloc (.cells (madeCells #[.int .i64 0] m) 3) = w1 := ⟨_, rfl⟩
  rw [hw1] at hmk I1 b1 z1
  obtain ⟨B, hB⟩ : ∃ B, w.heap.size = B := ⟨_, rfl⟩
  rw [hB] at hmk I1 b1 lg z1 ⊢
  obtain ⟨A, hA⟩ : ∃ A : Nat → Nat → Nat, A = fun j x => if x < j ∧ ldr Q x = x then plc Q x else 0 := ⟨_, rfl⟩
  have J1 : Hid (Ia w1 3 B m (fun x => ((A 0 x : Nat) : Int))) := I1.congr fun x _ => by rw [hA]; simp
  have G1 : Hid (Ia w1 3 g m (fun x => ((ldr Q x : Nat) : Int))) := hI.below b1 lg
  have B1 := Lib.hid b1
  have R1 : Hid (RowsL w1 (B + 1) w1.heap.size (.slice none 0 0) (clsL Q 0)) := RowsL.nil _ _ _ (Nat.le_refl _)
  have S1 : B + 1 ≤ w1.heap.size := by omega
  have HL : Hid (Leads m (ldr Q)) := ⟨ldr_le Q, fun x hx => ldr_rep hE hx⟩
  have LR := Lib.hid (fun i (hi : i < m) W (h : Ia W 3 g m (fun x => ((ldr Q x : Nat) : Int))) => iroot m g i (ldr Q) HL.out hi hm W h)
  have CL : Hid (∀ i, (clsL Q i).length = plc Q i) := clsL_len Q
  have PL : Hid (∀ i, plc Q i ≤ i) := plc_le Q
  have CN : Hid (∀ i, ldr Q i = i → (clsL Q i ++ [[]]).set (plc Q i) ((clsL Q i ++ [[]]).getD (plc Q i) [] ++ [(i : Int)]) = clsL Q (i + 1)) := fun i h => by
    rw [clsL_new h, ← clsL_len Q i]
    simp [List.getD]
  have CO : Hid (∀ i, i < m → ldr Q i ≠ i → (clsL Q i).set (plc Q (ldr Q i)) ((clsL Q i).getD (plc Q (ldr Q i)) [] ++ [(i : Int)]) = clsL Q (i + 1) ∧ plc Q (ldr Q i) < plc Q i) := fun i hi h => by
    have l := ldr_le Q i
    have rr := ldr_rep hE hi
    exact ⟨(clsL_old rfl (by omega) rr).symm, plc_lt Q (by omega) rr⟩
  have AS : Hid (∀ i, ldr Q i = i → ∀ x, updI (fun x => ((A i x : Nat) : Int)) i ((plc Q i : Nat) : Int) x = ((A (i + 1) x : Nat) : Int)) := fun i h x => by
    rw [hA]
    by_cases e : x = i
    · subst e; rw [updI_same]; simp [h]
    · rw [updI_ne _ _ _ _ e]
      by_cases c : x < i
      · simp [c, show x < i + 1 by omega]
      · simp [c, show ¬ x < i + 1 by omega]
  have AN : Hid (∀ i, ldr Q i ≠ i → ∀ x, ((A i x : Nat) : Int) = ((A (i + 1) x : Nat) : Int)) := fun i h x => by
    rw [hA]
    by_cases e : x = i
    · subst e; simp [h]
    · by_cases c : x < i
      · simp [c, show x < i + 1 by omega]
      · simp [c, show ¬ x < i + 1 by omega]
  have AV : Hid (∀ i, i < m → A (i + 1) (ldr Q i) = plc Q (ldr Q i)) := fun i hi => by
    have l := ldr_le Q i
    have rr := ldr_rep hE hi
    rw [hA]; simp [rr, show ldr Q i < i + 1 by omega]
  have RLE : Hid (∀ i, ldr Q i ≤ i) := ldr_le Q
  have RL : Hid (∀ i j, ((clsL Q i).getD j []).length ≤ i) := fun i j => by
    by_cases hj : j < (clsL Q i).length
    · rw [List.getD_eq_getElem?_getD, List.getElem?_eq_getElem hj]
      have hm := List.getElem_mem hj
      unfold clsL at hm
      obtain ⟨r, _, e⟩ := List.mem_map.1 hm
      show ((clsL Q i)[j]).length ≤ i
      unfold clsL
      rw [← e]; exact rowP_len Q i r
    · rw [List.getD_eq_getElem?_getD, List.getElem?_eq_none (by omega)]; simp
  have RL0 : Hid (∀ i, (clsL Q i ++ [[]]).getD (plc Q i) [] = []) := fun i => by rw [← clsL_len Q i]; simp [List.getD]
  clear hI b1 I1 hA hE hw1 z1
  go_enter Tryd.func63, Tryd.ntmps63
  go_wp2
  clear hmk
  go_loopw [3, 13] (fun cv i wr => ∃ j : Nat, j ≤ m ∧ i = .int .i64 j ∧ Hid (RowsL wr (B + 1) wr.heap.size cv (clsL Q j)) ∧ Hid (Ia wr 3 B m (fun x => ((A j x : Nat) : Int))) ∧ Hid (Ia wr 3 g m (fun x => ((ldr Q x : Nat) : Int))) ∧ Hid (Below B w wr) ∧ B + 1 ≤ wr.heap.size) (fun _ i _ => m - (intOf i).toNat)
  case atStart => exact ⟨0, by omega, rfl, R1, J1, G1, B1, S1⟩
  case round =>
    obtain ⟨j, hj, rfl, hR, hJ, hG, hBl, hS⟩ := hrel
    by_cases c : j < m
    · have k1 : decide (j < m) = true := by simpa using c
      have k1' : decide ((j : Int) < (m : Int)) = true := decide_eq_true (by omega)
      have w3 := IntWalk.i64_in ((j : Int) + 1) (by omega)
      have j0 : (0 : Int) ≤ (j : Int) := by omega
      have j1 : (j : Int) < (m : Int) := by omega
      have LRj := Lib.hid (LR.out j c wr hG.out)
      have rle := RLE.out j
      have AVj := AV.out j c
      have ANj := Lib.hid (AN.out j)
      have ASj := Lib.hid (AS.out j)
      have CNj := Lib.hid (CN.out j)
      have COj := Lib.hid (CO.out j c)
      have RLj := Lib.hid (fun k => RL.out j k)
      have RL0j := RL0.out j
      have CLj := CL.out j
      have PLj := PL.out j
      obtain ⟨ca, cc, rfl, -⟩ := hR.out.at.shape
      rw [CLj] at hR ⊢
      obtain ⟨X, hX⟩ : ∃ X, clsL Q j = X := ⟨_, rfl⟩
      obtain ⟨X', hX'⟩ : ∃ X, clsL Q (j + 1) = X := ⟨_, rfl⟩
      obtain ⟨r, hr⟩ : ∃ r, ldr Q j = r := ⟨_, rfl⟩
      obtain ⟨q, hq⟩ : ∃ q, plc Q j = q := ⟨_, rfl⟩
      obtain ⟨p, hp⟩ : ∃ p, plc Q r = p := ⟨_, rfl⟩
      rw [hX] at hR CNj COj RLj RL0j CLj
      rw [hX'] at CNj COj
      rw [hr] at LRj rle AVj ANj ASj CNj COj
      rw [hq] at hR CNj COj RL0j CLj PLj ASj ⊢
      rw [hp] at AVj COj
      have HX' := Lib.hid hX'
      have HPQ : Hid (r = j → p = q) := fun e => by rw [← hp, ← hq, e]
      clear hX hX' hr hq hp
      go_wp2_with fail
      refine LRj.out.mono ?_
      rintro e w5 ⟨rfl, b5, s5⟩
      have R5 : RowsL w5 (B + 1) w5.heap.size (.slice ca q cc) X := (hR.out.below b5 (Nat.le_refl _)).mono (Nat.le_refl _) b5.size (Nat.le_refl _)
      have J5 : Ia w5 3 B m (fun x => ((A j x : Nat) : Int)) := hJ.out.below b5 (by omega)
      have G5 : Ia w5 3 g m (fun x => ((ldr Q x : Nat) : Int)) := hG.out.below b5 (by omega)
      have B5 : Below B w w5 := hBl.out.trans (b5.mono (by omega))
      have S5 : B + 1 ≤ w5.heap.size := by omega
      clear b5 s5
      by_cases e : r = j
      · subst e
        obtain rfl : p = q := HPQ.out rfl
        have t1 : (((r : Nat) : Int) == ((r : Nat) : Int)) = true := by simp
        have old := J5.cell r c
        have fz := J5.frozen r
        obtain ⟨w6, hw6⟩ : ∃ w6, w5.setCell ⟨B, r, none⟩ (.int .i64 ((p : Nat) : Int)) = w6 := ⟨_, rfl⟩
        have O6 : OnlyG B w5 w6 := by rw [← hw6]; exact OnlyG.set B r w5 _
        have R6 : RowsL w6 (B + 1) w6.heap.size (.slice ca p cc) X := (R5.only O6 (Nat.lt_succ_self B)).mono (Nat.le_refl _) (by rw [O6.size]; exact Nat.le_refl _) (Nat.le_refl _)
        have J6 : Ia w6 3 B m (fun x => ((A (r + 1) x : Nat) : Int)) := by
          rw [← hw6]
          exact (J5.set r _).congr fun x _ => ASj.out rfl x
        have G6 : Ia w6 3 g m (fun x => ((ldr Q x : Nat) : Int)) := (O6.block g (by omega)).trans G5
        have B6 : Below B w w6 := B5.trans (O6.below B (Nat.le_refl _))
        have S6 : B + 1 ≤ w6.heap.size := by rw [O6.size]; exact S5
        have xl : X.length < 1000000000 := by omega
        have HR6 := Lib.hid R6
        have HJ6 := Lib.hid J6
        have HG6 := Lib.hid G6
        have HB6 := Lib.hid B6
        clear R5 J5 G5 B5 S5 O6 R6 J6 G6 B6 hR hJ hG hBl hS
        have hcn := CNj.out rfl
        rw [RL0j] at hcn
        have p0 : (0 : Int) ≤ (p : Int) := by omega
        have p1 : (p : Int) < ((p + 1 : Nat) : Int) := by omega
        go_wp2_with (first | (at_builtin; (refine wpList_pushR w6 (by rfl) _ _ (by rfl) (B + 1) w6.heap.size _ (.slice none 0 0) X [] (by rfl) HR6.out (nilI _ _) _ (by rfl) xl S6 ?_; intro v7 w7 h7 b7; obtain ⟨g7, c7, ub, uc, e7, hc7⟩ := h7.row (n := p + 1) (by rw [List.length_append, CLj]; rfl) (j := p) (Nat.lt_succ_self p); subst e7; have J7 : Ia w7 3 B m (fun x => ((A (r + 1) x : Nat) : Int)) := HJ6.out.below b7 (Nat.lt_succ_self B); have pc7 := J7.cell r c; rw [AVj] at pc7; have HJ7 := Lib.hid J7; have HG7 : Hid (Ia w7 3 g m (fun x => ((ldr Q x : Nat) : Int))) := HG6.out.below b7 (by omega); have HB7 : Hid (Below B w w7) := HB6.out.trans (b7.mono (Nat.le_succ B)); have HR7 := Lib.hid h7; have S7 : B + 1 ≤ w7.heap.size := Nat.le_trans S6 b7.size; rw [RL0j] at hc7; clear J7 h7 b7)) | (at_builtin; (refine wpList_growAt w7 (by rfl) _ _ (by rfl) (B + 1) _ g7 _ _ _ (X ++ [[]]) p (by rw [List.length_append, CLj]; exact Nat.lt_succ_self p) [] RL0j HR7.out hc7 (by rfl) (r : Int) _ (by rfl) (by simp) S7 ?_; intro v8 w8 hsh hn hold hf hb; obtain ⟨ub8, uc8, hsh⟩ := hsh; subst hsh; obtain ⟨old8, hold⟩ := hold; rw [hcn] at hn; have HN := Lib.hid hn; have HB8 := Lib.hid hb; clear hn hb)))
        go_roundw
        case rel => exact ⟨r + 1, by omega, by go_num, by unfold Hid; rw [HX'.out]; exact HN.out, HJ7.out.below HB8.out (Nat.lt_succ_self B), HG7.out.below HB8.out (by omega), HB7.out.trans (HB8.out.mono (Nat.le_succ B)), Nat.le_trans S7 HB8.out.size⟩
        case measure => simp [intOf]; omega
      · have t1 : (((r : Nat) : Int) == ((j : Nat) : Int)) = false := by simp; omega
        obtain ⟨hcn, plq⟩ := COj.out e
        obtain ⟨g7, c7, ub, uc, e7, hc7⟩ := R5.row (n := q) CLj (j := p) plq
        simp only [Value.slice.injEq, true_and] at e7
        obtain ⟨rfl, rfl⟩ := e7
        have pc5 := J5.cell r (by omega)
        rw [show A j r = p by have := ANj.out e r; omega] at pc5
        have rlp : (X.getD p []).length < 1000000000000 := by have := RLj.out p; omega
        obtain ⟨row, hrow⟩ : ∃ row, X.getD p [] = row := ⟨_, rfl⟩
        rw [hrow] at hc7 hcn rlp
        have HW := Lib.hid hrow
        have HR5 := Lib.hid R5
        have HJ5 : Hid (Ia w5 3 B m (fun x => ((A (j + 1) x : Nat) : Int))) := J5.congr fun x _ => ANj.out e x
        have HG5 := Lib.hid G5
        have HB5 := Lib.hid B5
        have p0 : (0 : Int) ≤ (p : Int) := by omega
        have p1 : (p : Int) < (q : Int) := by omega
        have r0 : (0 : Int) ≤ (r : Int) := by omega
        have r1 : (r : Int) < (m : Int) := by omega
        clear R5 J5 G5 B5 hR hJ hG hBl hS hrow
        go_wp2_with (at_builtin; (refine wpList_growAt w5 (by rfl) _ _ (by rfl) (B + 1) _ g7 _ _ _ X p (by rw [CLj]; exact plq) row HW.out HR5.out hc7 (by rfl) (j : Int) _ (by rfl) rlp S5 ?_; intro v8 w8 hsh hn hold hf hb; obtain ⟨ub8, uc8, hsh⟩ := hsh; subst hsh; obtain ⟨old8, hold⟩ := hold; rw [hcn] at hn; have HN := Lib.hid hn; have HB8 := Lib.hid hb; clear hn hb))
        go_roundw
        case rel => exact ⟨j + 1, by omega, by go_num, by unfold Hid; rw [HX'.out]; exact HN.out, HJ5.out.below HB8.out (Nat.lt_succ_self B), HG5.out.below HB8.out (by omega), HB5.out.trans (HB8.out.mono (Nat.le_succ B)), Nat.le_trans S5 HB8.out.size⟩
        case measure => simp [intOf]; omega
    · have k1 : decide (j < m) = false := by simpa using c
      have k1' : decide ((j : Int) < (m : Int)) = false := decide_eq_false (by omega)
      obtain rfl : j = m := by omega
      go_wp2
      go_ret
      exact ⟨_, rfl, hR.out.mono (Nat.le_succ B) (Nat.le_refl _) (Nat.le_refl _), hBl.out⟩
end

/-! The parallel classes: the program's parallelClasses. -/
section
open Go.RowKit Go.Shelf
set_option linter.unusedVariables false
set_option linter.unusedSimpArgs false

/-- Who leads while i is compared with the numbers below j. -/
def fS (Q : Nat → Nat → Bool) (i j x : Nat) : Nat := if x < i then ldr Q x else if x = i then (if ldr Q i < j then ldr Q i else i) else x
theorem fS_lt {Q : Nat → Nat → Bool} {i j x : Nat} (h : x < i) : fS Q i j x = ldr Q x := by unfold fS; rw [if_pos h]
theorem fS_at1 {Q : Nat → Nat → Bool} {i j : Nat} (h : ldr Q i < j) : fS Q i j i = ldr Q i := by unfold fS; rw [if_neg (Nat.lt_irrefl i), if_pos rfl, if_pos h]
theorem fS_at0 {Q : Nat → Nat → Bool} {i j : Nat} (h : ¬ ldr Q i < j) : fS Q i j i = i := by unfold fS; rw [if_neg (Nat.lt_irrefl i), if_pos rfl, if_neg h]
theorem fS_gt {Q : Nat → Nat → Bool} {i j x : Nat} (h : i < x) : fS Q i j x = x := by unfold fS; rw [if_neg (by omega), if_neg (by omega)]
theorem fS_leads {Q : Nat → Nat → Bool} {m i j : Nat} (h : Equ m Q) (hi : i < m) (hj : j ≤ i) : Leads m (fS Q i j) where
  le x := by
    have := ldr_le Q x
    rcases Nat.lt_trichotomy x i with c | c | c
    · rw [fS_lt c]; exact this
    · subst c
      by_cases d : ldr Q x < j
      · rw [fS_at1 d]; exact this
      · rw [fS_at0 d]; exact Nat.le_refl _
    · rw [fS_gt c]; exact Nat.le_refl _
  idem x hx := by
    have l := ldr_le Q x
    rcases Nat.lt_trichotomy x i with c | c | c
    · rw [fS_lt c, fS_lt (by omega)]; exact ldr_rep h hx
    · subst c
      by_cases d : ldr Q x < j
      · rw [fS_at1 d, fS_lt (by omega)]; exact ldr_rep h hx
      · rw [fS_at0 d, fS_at0 d]
    · rw [fS_gt c, fS_gt c]
theorem fS_skip {Q : Nat → Nat → Bool} {m i j : Nat} (h : Equ m Q) (hj : j < i) (hq : Q j i = false) (x : Nat) : fS Q i j x = fS Q i (j + 1) x := by
  have : ldr Q i ≠ j := fun e => by
    have := ldr_rel h i
    rw [e, hq] at this; cases this
  rcases Nat.lt_trichotomy x i with c | c | c
  · rw [fS_lt c, fS_lt c]
  · subst c
    by_cases d : ldr Q x < j
    · rw [fS_at1 d, fS_at1 (by omega)]
    · rw [fS_at0 d, fS_at0 (by omega)]
  · rw [fS_gt c, fS_gt c]
theorem fS_join {Q : Nat → Nat → Bool} {m i j : Nat} (h : Equ m Q) (hi : i < m) (hj : j < i) (hq : Q j i = true) : fS Q i j j ≤ fS Q i j i ∧ ∀ x, (if x = fS Q i j i then fS Q i j j else fS Q i j x) = fS Q i (j + 1) x := by
  have e := ldr_same h (by omega) hi hq
  have l := ldr_le Q j
  have rr := ldr_rep h hi
  by_cases d : ldr Q i < j
  · rw [fS_at1 d, fS_lt hj, e]
    refine ⟨Nat.le_refl _, fun x => ?_⟩
    by_cases c : x = ldr Q i
    · rw [if_pos c, c, fS_lt (by omega), rr]
    · rw [if_neg c]
      rcases Nat.lt_trichotomy x i with c | c | c
      · rw [fS_lt c, fS_lt c]
      · subst c; rw [fS_at1 d, fS_at1 (by omega)]
      · rw [fS_gt c, fS_gt c]
  · have ej : ldr Q i = j := by omega
    rw [fS_at0 d, fS_lt hj, e]
    refine ⟨by omega, fun x => ?_⟩
    by_cases c : x = i
    · subst c; rw [if_pos rfl, fS_at1 (by omega)]
    · rw [if_neg c]
      by_cases c' : x < i
      · rw [fS_lt c', fS_lt c']
      · rw [fS_gt (by omega), fS_gt (by omega)]
theorem fS_next {Q : Nat → Nat → Bool} (i x : Nat) : fS Q i i x = fS Q (i + 1) 0 x := by
  have l := ldr_le Q i
  rcases Nat.lt_trichotomy x i with c | c | c
  · rw [fS_lt c, fS_lt (by omega)]
  · subst c
    rw [fS_lt (Nat.lt_succ_self x)]
    by_cases d : ldr Q x < x
    · rw [fS_at1 d]
    · rw [fS_at0 d]; omega
  · rw [fS_gt c]
    by_cases d : x = i + 1
    · subst d; rw [fS_at0 (Nat.not_lt_zero _)]
    · rw [fS_gt (by omega)]

set_option maxRecDepth 100000 in
set_option maxHeartbeats 4000000 in
theorem iParallel (n k : Int) (m g : Nat) (S : Nat → Nat) (Q : Nat → Nat → Bool) (hE : Equ m Q) (hQ : ∀ i j, i < m → j < i → ∀ z, OpOut (fun a b => a && b) (S i) (S j) z → Q j i = decide (z = 0)) (hm : m ≤ 128) (w : World) (hU : Ub w g m S) (hS : ∀ i, i < m → S i < 4294967296) :
    Calls Tryd.prog 37 #[.agg #[.int .i64 n, .slice (some ⟨g, 0, none⟩) m m, .int .i64 k]] w fun e w' => ∃ v, e = .returned v ∧ RowsL w' w.heap.size w'.heap.size v (clsL Q m) ∧ Below w.heap.size w w' := by
  obtain ⟨B, hB⟩ : ∃ B, w.heap.size = B := ⟨_, rfl⟩
  have lg : g < B := by rw [← hB]; exact hU.lt
  obtain ⟨w1, hw1⟩ : ∃ w1, w.alloc (.cells #[.int .i64 n, .slice (some ⟨g, 0, none⟩) m m, .int .i64 k] 55) = w1 := ⟨_, rfl⟩
  have z1 : w1.heap.size = B + 1 := by rw [← hw1, World.size_alloc, hB]
  have b1 : Below B w w1 := by rw [← hw1]; exact (Below.refl _ _).alloc (by omega) _
  have A1 : w1.heap[B]? = some (.cells #[.int .i64 n, .slice (some ⟨g, 0, none⟩) m m, .int .i64 k] 55 (0, 0)) := by rw [← hw1, ← hB]; exact heap_alloc_new _ _
  have U1 := hU.below b1 lg
  have HF := Lib.hid (inewForest m hm w1)
  rw [z1] at HF
  -- what stays
  obtain ⟨K, hK⟩ : ∃ K : World → Prop, K = fun W => Ub W g m S ∧ W.heap[B]? = some (.cells #[.int .i64 n, .slice (some ⟨g, 0, none⟩) m m, .int .i64 k] 55 (0, 0)) ∧ Below B w W ∧ B + 1 ≤ W.heap.size := ⟨_, rfl⟩
  have K1 : Hid (K w1) := by rw [hK]; exact ⟨U1, A1, b1, Nat.le_of_eq z1.symm⟩
  have KB : Hid (∀ W W', Below (B + 1) W W' → K W → K W') := fun W W' bb h => by
    rw [hK] at h ⊢
    obtain ⟨q1, q2, q3, q4⟩ := h
    exact ⟨q1.below bb (by omega), (bb.block B (Nat.lt_succ_self B)).trans q2, q3.trans (bb.mono (Nat.le_succ B)), Nat.le_trans q4 bb.size⟩
  have KC : Hid (∀ W, K W → W.cell? ⟨B, 1, none⟩ = some (.slice (some ⟨g, 0, none⟩) m m) ∧ ∀ i, i < m → W.cell? ⟨g, i, none⟩ = some (.int .u32 (S i : Nat))) := fun W h => by
    rw [hK] at h
    exact ⟨(cells3A W B _ _ _ _ h.2.1).2.1, fun i hi => h.1.cell i hi⟩
  have KO : Hid (∀ W, K W → Below B w W) := fun W h => by rw [hK] at h; exact h.2.2.1
  have HM : Hid (∀ i j, i < m → j < i → ∀ W, Calls Tryd.prog 61 #[.int .u32 (S i : Nat), .int .u32 (S j : Nat)] W fun e w' => ∃ z : Nat, e = .returned (.int .u32 z) ∧ Q j i = decide (z = 0) ∧ W = w') := fun i j hi hj W => by
    refine (imeet (S i) (S j) W (hS i hi) (hS j (by omega))).mono ?_
    rintro e w' ⟨z, rfl, hz, rfl⟩
    exact ⟨z, rfl, hQ i j hi hj z hz, rfl⟩
  have HJ : Hid (∀ g2 i j, i < m → j < i → Q j i = true → ∀ W, Ia W 3 g2 m (fun x => ((fS Q i j x : Nat) : Int)) → Calls Tryd.prog 62 #[.slice (some ⟨g2, 0, none⟩) m m, .int .i64 (i : Int), .int .i64 (j : Int)] W fun e w' => e = .returned (.tuple #[]) ∧ Ia w' 3 g2 m (fun x => ((fS Q i (j + 1) x : Nat) : Int)) ∧ OnlyG g2 W w') := fun g2 i j hi hj hq W h => by
    obtain ⟨q1, q2⟩ := fS_join hE hi hj hq
    refine (ijoin m g2 i j (fS Q i j) (fS_leads hE hi (by omega)) hi (by omega) q1 hm W h).mono ?_
    rintro e w' ⟨rfl, h1, h2⟩
    exact ⟨rfl, h1.congr fun x _ => by rw [q2 x], h2⟩
  have HN : Hid (∀ i j, j < i → Q j i = false → ∀ W g2, Ia W 3 g2 m (fun x => ((fS Q i j x : Nat) : Int)) → Ia W 3 g2 m (fun x => ((fS Q i (j + 1) x : Nat) : Int))) := fun i j hj hq W g2 h => h.congr fun x _ => by rw [fS_skip hE hj hq x]
  have HX : Hid (∀ i W g2, Ia W 3 g2 m (fun x => ((fS Q i i x : Nat) : Int)) → Ia W 3 g2 m (fun x => ((fS Q (i + 1) 0 x : Nat) : Int))) := fun i W g2 h => h.congr fun x _ => by rw [fS_next i x]
  have H0 : Hid (∀ W g2, Ia W 3 g2 m (fun x => (x : Int)) → Ia W 3 g2 m (fun x => ((fS Q 0 0 x : Nat) : Int))) := fun W g2 h => h.congr fun x _ => by
    have : fS Q 0 0 x = x := by
      by_cases c : x = 0
      · subst c; exact fS_at0 (Nat.not_lt_zero _)
      · exact fS_gt (by omega)
    rw [this]
  have HL : Hid (∀ W g2, Ia W 3 g2 m (fun x => ((fS Q m 0 x : Nat) : Int)) → Calls Tryd.prog 63 #[.slice (some ⟨g2, 0, none⟩) m m] W fun e w' => ∃ v, e = .returned v ∧ RowsL w' W.heap.size w'.heap.size v (clsL Q m) ∧ Below W.heap.size W w') := fun W g2 h =>
    iclasses m g2 Q hE hm W (h.congr fun x hx => by rw [fS_lt hx])
  obtain ⟨F, hF⟩ : ∃ F : Nat → Nat → Nat → Int, F = fun i j x => ((fS Q i j x : Nat) : Int) := ⟨_, rfl⟩
  have HJ : Hid (∀ g2 i j, i < m → j < i → Q j i = true → ∀ W, Ia W 3 g2 m (F i j) → Calls Tryd.prog 62 #[.slice (some ⟨g2, 0, none⟩) m m, .int .i64 (i : Int), .int .i64 (j : Int)] W fun e w' => e = .returned (.tuple #[]) ∧ Ia w' 3 g2 m (F i (j + 1)) ∧ OnlyG g2 W w') := by rw [hF]; exact HJ
  have HN : Hid (∀ i j, j < i → Q j i = false → ∀ W g2, Ia W 3 g2 m (F i j) → Ia W 3 g2 m (F i (j + 1))) := by rw [hF]; exact HN
  have HX : Hid (∀ i W g2, Ia W 3 g2 m (F i i) → Ia W 3 g2 m (F (i + 1) 0)) := by rw [hF]; exact HX
  have H0 : Hid (∀ W g2, Ia W 3 g2 m (fun x => (x : Int)) → Ia W 3 g2 m (F 0 0)) := by rw [hF]; exact H0
  have HL : Hid (∀ W g2, Ia W 3 g2 m (F m 0) → Calls Tryd.prog 63 #[.slice (some ⟨g2, 0, none⟩) m m] W fun e w' => ∃ v, e = .returned v ∧ RowsL w' W.heap.size w'.heap.size v (clsL Q m) ∧ Below W.heap.size W w') := by rw [hF]; exact HL
  obtain ⟨c1, -⟩ := KC.out _ K1.out
  have HB := Lib.hid hB
  clear hK hF hU hS hQ hE A1 b1 U1
  go_enter Tryd.func37, Tryd.ntmps37
  go_wp2_with fail
  try rw [hw1]
  refine HF.out.mono ?_
  rintro e w3 ⟨g2, rfl, hg2, hI3, b3⟩
  have K3 := Lib.hid (KB.out _ _ b3 K1.out)
  have I3 := Lib.hid (H0.out _ _ hI3)
  obtain ⟨c1', -⟩ := KC.out _ K3.out
  clear c1 hI3 b3 hw1 z1 K1 HF
  go_wp2
  go_loopw [17] (fun i wr => ∃ j : Nat, j ≤ m ∧ i = .int .i64 j ∧ Hid (Ia wr 3 g2 m (F j 0)) ∧ Hid (K wr)) (fun i _ => m - (intOf i).toNat)
  case atStart => exact ⟨0, by omega, rfl, I3, K3⟩
  case round =>
    obtain ⟨i, hi, rfl, hI, hKw⟩ := hrel
    by_cases ci : i < m
    · have k1 : decide (i < m) = true := by simpa using ci
      have k1' : decide ((i : Int) < (m : Int)) = true := decide_eq_true (by omega)
      have w3' := IntWalk.i64_in ((i : Int) + 1) (by omega)
      have i0 : (0 : Int) ≤ (i : Int) := by omega
      have i1 : (i : Int) < (m : Int) := by omega
      have i2 : (i : Int) ≤ (m : Int) := by omega
      have s1 : decide ((0 : Int) ≤ (i : Int)) = true := decide_eq_true i0
      have s2 : decide ((i : Int) ≤ (m : Int)) = true := decide_eq_true i2
      obtain ⟨d1, d2⟩ := KC.out _ hKw.out
      have u1 := d2 i ci
      have HMi := Lib.hid (fun j hj W => HM.out i j ci hj W)
      obtain ⟨si, hsi⟩ : ∃ s, S i = s := ⟨_, rfl⟩
      simp only [hsi] at HMi
      rw [hsi] at u1
      clear c1' d2 hsi
      obtain ⟨wq, rfl⟩ : ∃ wq : World, wq = wr := ⟨_, rfl⟩
      go_wp2
      go_loopw [28] (fun jv wr => ∃ j : Nat, j ≤ i ∧ jv = .int .i64 j ∧ Hid (Ia wr 3 g2 m (F i j)) ∧ Hid (K wr)) (fun jv _ => i - (intOf jv).toNat)
      case atStart => exact ⟨0, by omega, rfl, hI, hKw⟩
      case round =>
        obtain ⟨j, hj, rfl, hI2, hK2⟩ := hrel
        by_cases cj : j < i
        · have k2 : decide (j < i) = true := by simpa using cj
          have k2' : decide ((j : Int) < (i : Int)) = true := decide_eq_true (by omega)
          have w4' := IntWalk.i64_in ((j : Int) + 1) (by omega)
          have j0 : (0 : Int) ≤ (j : Int) := by omega
          have j1 : (j : Int) < (i : Int) := by omega
          obtain ⟨-, d3⟩ := KC.out _ hK2.out
          have u2 := d3 j (by omega)
          have HMj := Lib.hid (HMi.out j cj)
          obtain ⟨sj, hsj⟩ : ∃ s, S j = s := ⟨_, rfl⟩
          simp only [hsj] at HMj
          rw [hsj] at u2
          clear d3 hsj d1 u1
          go_wp2_with fail
          refine (HMj.out _).mono ?_
          rintro e w6 ⟨z, rfl, hz, rfl⟩
          cases hq : Q j i with
          | true =>
            have z0 : z = 0 := by rw [hq] at hz; exact of_decide_eq_true hz.symm
            subst z0
            have HJj := Lib.hid (HJ.out g2 i j ci cj hq _ hI2.out)
            clear hz hq
            go_wp2_with fail
            refine HJj.out.mono ?_
            rintro e w7 ⟨rfl, hI7, o7⟩
            have I7 := Lib.hid hI7
            have K7 := Lib.hid (KB.out _ _ (o7.below (B + 1) hg2) hK2.out)
            clear hI7 o7
            go_wp2
            go_roundw
            case rel => exact ⟨j + 1, by omega, by go_num, I7, K7⟩
            case measure => simp [intOf]; omega
          | false =>
            have z0 : ¬ z = 0 := by rw [hq] at hz; exact of_decide_eq_false hz.symm
            have t1 : (((z : Nat) : Int) == 0) = false := by simpa using z0
            have I7 := Lib.hid (HN.out i j cj hq _ _ hI2.out)
            clear hz hq
            replace z0 := Lib.hid z0
            go_wp2
            go_roundw
            case rel => exact ⟨j + 1, by omega, by go_num, I7, hK2⟩
            case measure => simp [intOf]; omega
        · have k2 : decide (j < i) = false := by simpa using cj
          have k2' : decide ((j : Int) < (i : Int)) = false := decide_eq_false (by omega)
          obtain rfl : j = i := by omega
          have I7 := Lib.hid (HX.out j _ _ hI2.out)
          go_wp2
          go_roundw
          case rel => exact ⟨j + 1, by omega, by go_num, I7, hK2⟩
          case measure => simp [intOf]; omega
    · have k1 : decide (i < m) = false := by simpa using ci
      have k1' : decide ((i : Int) < (m : Int)) = false := decide_eq_false (by omega)
      obtain rfl : i = m := by omega
      have HLm := Lib.hid (HL.out _ _ hI.out)
      have BO := Lib.hid (KO.out _ hKw.out)
      have SB := BO.out.size
      have SB : B ≤ wr.heap.size := by have := HB.out; omega
      clear c1'
      go_wp2_with fail
      refine HLm.out.mono ?_
      rintro e w8 ⟨v, rfl, h8, b8⟩
      have R8 := Lib.hid (h8.mono SB (Nat.le_refl _) (Nat.le_refl _))
      have B8 : Hid (Below B w w8) := BO.out.trans (b8.mono SB)
      obtain ⟨va, vc, rfl, -⟩ := h8.at.shape
      clear h8 b8
      go_wp2
      go_ret
      exact ⟨_, rfl, by first | exact R8.out | (rw [HB.out]; exact R8.out), by first | exact B8.out | (rw [HB.out]; exact B8.out)⟩
end
end Go.Proofs.YtdhlnagkhkcoiaaDoor
