/- Lists in order: what sorting gives. Mathematics alone. -/
import Derived.Test.YtdhlnagkhkcoiaaDoorSoh
import Derived.Test.YtdhlnagkhkcoiaaDoorInc
import Derived.Test.YtdhlnagkhkcoiaaDoorGrd
namespace Go.Proofs.YtdhlnagkhkcoiaaDoor
open Go.RowKit
set_option linter.unusedVariables false
set_option linter.unusedSimpArgs false

/-- In order. -/
def Ordd (L : List (List Int)) : Prop := L.Pairwise (fun a b => cmpL a b ≤ 0)
theorem cmp_le_trans {a b c : List Int} (h1 : cmpL a b ≤ 0) (h2 : cmpL b c ≤ 0) : cmpL a c ≤ 0 := (cmp_trans a b c h1 h2).1
theorem cmp_not {a b : List Int} (h : 0 < cmpL a b) : cmpL b a ≤ 0 := by have := cmp_anti a b; omega
theorem ord_unique : ∀ (L M : List (List Int)), L.Perm M → Ordd L → Ordd M → L = M
  | [], M, h, _, _ => by rw [List.nil_perm.1 h]
  | a :: L, [], h, _, _ => by cases List.perm_nil.1 h
  | a :: L, b :: M, h, h1, h2 => by
    have ha : a ∈ b :: M := h.mem_iff.1 (List.mem_cons_self ..)
    have hb : b ∈ a :: L := h.mem_iff.2 (List.mem_cons_self ..)
    have e : a = b := by
      rcases List.mem_cons.1 ha with e | m1
      · exact e
      · rcases List.mem_cons.1 hb with e | m2
        · exact e.symm
        · have q1 := (List.pairwise_cons.1 h2).1 a m1
          have q2 := (List.pairwise_cons.1 h1).1 b m2
          have := cmp_anti a b
          exact cmp_eq0 a b (by omega)
    subst e
    rw [ord_unique L M (List.Perm.cons_inv h) (List.pairwise_cons.1 h1).2 (List.pairwise_cons.1 h2).2]

/-- Where a list goes: behind all that are not greater, from the end. -/
def place (L : List (List Int)) (x : List Int) : Nat → Nat
  | 0 => 0
  | k + 1 => if 0 < cmpL (L.getD k []) x then place L x k else k + 1
def insAt (L : List (List Int)) (x : List Int) (k : Nat) : List (List Int) := L.take k ++ x :: L.drop k
def insL (L : List (List Int)) (x : List Int) : List (List Int) := insAt L x (place L x L.length)
def sortL (xss : List (List Int)) : List (List Int) := xss.foldl insL []
theorem place_le (L : List (List Int)) (x : List Int) : ∀ k, place L x k ≤ k
  | 0 => Nat.le_refl _
  | k + 1 => by rw [place]; split; exact Nat.le_succ_of_le (place_le L x k); exact Nat.le_refl _
theorem place_gt (L : List (List Int)) (x : List Int) : ∀ k j, place L x k ≤ j → j < k → 0 < cmpL (L.getD j []) x
  | 0, j, _, h => by omega
  | k + 1, j, h1, h2 => by
    rw [place] at h1
    by_cases c : 0 < cmpL (L.getD k []) x
    · rw [if_pos c] at h1
      by_cases e : j = k
      · rw [e]; exact c
      · exact place_gt L x k j h1 (by omega)
    · rw [if_neg c] at h1; omega
theorem place_last (L : List (List Int)) (x : List Int) : ∀ k, 0 < place L x k → ¬ 0 < cmpL (L.getD (place L x k - 1) []) x
  | 0, h => by cases h
  | k + 1, h => by
    rw [place] at h ⊢
    by_cases c : 0 < cmpL (L.getD k []) x
    · rw [if_pos c] at h ⊢; exact place_last L x k h
    · rw [if_neg c, Nat.add_sub_cancel]; exact c
theorem insL_len (L : List (List Int)) (x : List Int) : (insL L x).length = L.length + 1 := by
  have := place_le L x L.length
  simp [insL, insAt]; omega
theorem insL_perm (L : List (List Int)) (x : List Int) : (insL L x).Perm (x :: L) := by
  unfold insL insAt
  refine List.perm_middle.trans ?_
  rw [List.take_append_drop]
theorem mem_getD {L : List (List Int)} {y : List Int} (h : y ∈ L) : ∃ i, i < L.length ∧ L.getD i [] = y := by
  obtain ⟨i, hi, e⟩ := List.mem_iff_getElem.1 h
  exact ⟨i, hi, by rw [List.getD_eq_getElem?_getD, List.getElem?_eq_getElem hi]; exact e⟩
theorem ord_at {L : List (List Int)} (h : Ordd L) {i j : Nat} (hij : i ≤ j) (hj : j < L.length) : cmpL (L.getD i []) (L.getD j []) ≤ 0 := by
  by_cases e : i = j
  · rw [e, cmp_refl]; omega
  · have := List.pairwise_iff_getElem.1 h i j (by omega) hj (by omega)
    rw [List.getD_eq_getElem?_getD, List.getD_eq_getElem?_getD, List.getElem?_eq_getElem (by omega : i < L.length), List.getElem?_eq_getElem hj]
    exact this
theorem insL_ord {L : List (List Int)} (x : List Int) (h : Ordd L) : Ordd (insL L x) := by
  unfold insL insAt Ordd
  have hk := place_le L x L.length
  have hgt := place_gt L x L.length
  have hla := place_last L x L.length
  generalize place L x L.length = k at hk hgt hla
  have left : ∀ a ∈ L.take k, cmpL a x ≤ 0 := fun a ha => by
    obtain ⟨i, hi, e⟩ := mem_getD ha
    rw [List.length_take] at hi
    have e2 : L.getD i [] = a := by rw [← e]; simp [List.getD_eq_getElem?_getD, show i < k by omega]
    rw [← e2]
    exact cmp_le_trans (ord_at h (show i ≤ k - 1 by omega) (by omega)) (by have := hla (by omega); omega)
  have right : ∀ b ∈ L.drop k, cmpL x b ≤ 0 := fun b hb => by
    obtain ⟨i, hi, e⟩ := mem_getD hb
    rw [List.length_drop] at hi
    have e2 : L.getD (k + i) [] = b := by rw [← e]; simp [List.getD_eq_getElem?_getD, List.getElem?_drop]
    rw [← e2]
    exact cmp_not (hgt (k + i) (by omega) (by omega))
  rw [List.pairwise_append]
  refine ⟨List.Pairwise.sublist (List.take_sublist k L) h, ?_, fun a ha b hb => ?_⟩
  · rw [List.pairwise_cons]
    exact ⟨right, List.Pairwise.sublist (List.drop_sublist k L) h⟩
  · rcases List.mem_cons.1 hb with e | e
    · rw [e]; exact left a ha
    · exact cmp_le_trans (left a ha) (right b e)
theorem fold_perm (xss : List (List Int)) : ∀ acc, (xss.foldl insL acc).Perm (acc ++ xss) := by
  induction xss with
  | nil => intro acc; simp
  | cons x xs ih =>
    intro acc
    refine (ih (insL acc x)).trans ?_
    have := (insL_perm acc x).append_right xs
    exact this.trans (by rw [List.cons_append]; exact List.perm_middle.symm)
theorem fold_ord (xss : List (List Int)) : ∀ acc, Ordd acc → Ordd (xss.foldl insL acc) := by
  induction xss with
  | nil => intro acc h; exact h
  | cons x xs ih => intro acc h; exact ih _ (insL_ord x h)
theorem sortL_perm (xss : List (List Int)) : (sortL xss).Perm xss := by have := fold_perm xss []; rw [List.nil_append] at this; exact this
theorem sortL_ord (xss : List (List Int)) : Ordd (sortL xss) := fold_ord xss [] (List.Pairwise.nil)
theorem sortL_len (xss : List (List Int)) : (sortL xss).length = xss.length := (sortL_perm xss).length_eq
theorem sortL_of {xss L : List (List Int)} (h : L.Perm xss) (ho : Ordd L) : L = sortL xss := ord_unique L _ (h.trans (sortL_perm xss).symm) ho (sortL_ord xss)
theorem sortL_of_ord {xss : List (List Int)} (ho : Ordd xss) : sortL xss = xss := (sortL_of (List.Perm.refl _) ho).symm
/-- The next step. -/
theorem sortL_take (xss : List (List Int)) (i : Nat) (hi : i < xss.length) : sortL (xss.take (i + 1)) = insL (sortL (xss.take i)) (xss.getD i []) := by
  unfold sortL
  have e : xss.take (i + 1) = xss.take i ++ [xss.getD i []] := by
    rw [List.take_add_one, List.getElem?_eq_getElem hi, List.getD_eq_getElem?_getD, List.getElem?_eq_getElem hi]; rfl
  rw [e, List.foldl_append]
  rfl

/-- The lists of points of m sets. -/
def ptsL (m : Nat) (S : Nat → Nat) : List (List Int) := (List.range m).map (fun i => ptsN (S i))
theorem ptsL_len (m : Nat) (S : Nat → Nat) : (ptsL m S).length = m := by simp [ptsL]
theorem ptsL_at (m : Nat) (S : Nat → Nat) (i : Nat) (hi : i < m) : (ptsL m S).getD i [] = ptsN (S i) := by
  unfold ptsL; rw [List.getD_eq_getElem?_getD, List.getElem?_eq_getElem (by simpa using hi)]; simp
theorem ptsL_sorted {m : Nat} {S S' : Nat → Nat} (hp : ((List.range m).map S').Perm ((List.range m).map S)) (ho : ∀ i j, i < j → j < m → cmpL (ptsN (S' i)) (ptsN (S' j)) ≤ 0) : ptsL m S' = sortL (ptsL m S) := by
  refine sortL_of ?_ ?_
  · have := hp.map ptsN
    rw [List.map_map, List.map_map] at this
    exact this
  · unfold Ordd
    rw [List.pairwise_iff_getElem]
    intro i j hi hj hij
    rw [ptsL_len] at hi hj
    have := ho i j hij hj
    simpa [ptsL] using this
theorem ptsL_of {n : Int} {xss : List (List Int)} {S : Nat → Nat} (hb : blksB n xss = true) (hS : SetsF xss xss.length S) : ptsL xss.length S = xss := by
  obtain ⟨h1, h2, h3⟩ := of_blksB hb
  apply List.ext_getElem (by rw [ptsL_len])
  intro i hi hi2
  have e := blk_fls h2 (h3 i hi2).2 (hS i hi2).2
  rw [List.getD_eq_getElem?_getD, List.getElem?_eq_getElem hi2] at e
  simp only [Option.getD_some] at e
  rw [← e]
  simp only [ptsL, List.getElem_map, List.getElem_range]
  rfl
/-- Whether one of m sets is empty. -/
def zeroB (m : Nat) (S : Nat → Nat) : Bool := (List.range m).any (fun i => S i == 0)
theorem zero_true {m i : Nat} {S : Nat → Nat} (hi : i < m) (h : S i = 0) : zeroB m S = true := by
  unfold zeroB; rw [List.any_eq_true]; exact ⟨i, List.mem_range.2 hi, by simp [h]⟩
theorem zero_false {m : Nat} {S : Nat → Nat} (h : ∀ i, i < m → S i ≠ 0) : zeroB m S = false := by
  unfold zeroB; rw [List.any_eq_false]; intro i hi; simpa using h i (List.mem_range.1 hi)

/-! The design with some sets as its blocks (designOf): the program's. -/
section
open Go.RowKit Go.Shelf
set_option linter.unusedVariables false
set_option linter.unusedSimpArgs false

set_option maxHeartbeats 1000000 in
theorem iIndexZ (m g cp : Nat) (S : Nat → Nat) (hm : m ≤ 1048576) (w : World) (hU : Uc w g m S) :
    Calls Tryd.prog 86 #[.slice (some ⟨g, 0, none⟩) m cp, .int .u32 0] w fun e w' => (∃ z : Int, e = .returned (.int .i64 z) ∧ decide (0 ≤ z) = zeroB m S) ∧ w' = w := by
  have HK := Lib.hid (fun i hi => hU.cell i hi)
  have HIT : Hid (∀ j, j < m → S j = 0 → zeroB m S = true) := fun j hj h => zero_true hj h
  have MISS : Hid ((∀ k, k < m → S k ≠ 0) → zeroB m S = false) := fun h => zero_false h
  obtain ⟨V, hV⟩ : ∃ V, zeroB m S = V := ⟨_, rfl⟩
  rw [hV] at HIT MISS ⊢
  clear hV hU
  go_enter Tryd.func86, Tryd.ntmps86
  go_wp2
  go_loop [8] (fun i => ∃ j : Nat, j ≤ m ∧ i = .int .i64 j ∧ Hid (∀ k, k < j → S k ≠ 0)) (fun i => m - (intOf i).toNat)
  case atStart => exact ⟨0, by omega, rfl, fun k hk => by omega⟩
  case round =>
    obtain ⟨j, hj, rfl, hN⟩ := hrel
    by_cases c : j < m
    · have g1 : decide (j < m) = true := by simpa using c
      have g1' : decide ((j : Int) < (m : Int)) = true := decide_eq_true (by omega)
      have m1 := HK.out j c
      have j0 : (0 : Int) ≤ (j : Int) := by omega
      have j1 : (j : Int) < (m : Int) := by omega
      have w3 := IntWalk.i64_in ((j : Int) + 1) (by omega)
      have HJ := Lib.hid (HIT.out j c)
      obtain ⟨x, hx⟩ : ∃ x, S j = x := ⟨_, rfl⟩
      rw [hx] at m1 HJ
      by_cases e : x = 0
      · have VV := Lib.hid (HJ.out e)
        subst e
        clear hx
        go_wp2
        go_ret
        exact ⟨⟨j, rfl, by rw [VV.out]; exact decide_eq_true (by omega)⟩, rfl⟩
      · have N2 : Hid (∀ k, k < j + 1 → S k ≠ 0) := fun k hk => by
          by_cases q : k = j
          · rw [q, hx]; exact e
          · exact hN.out k (by omega)
        have g2 : ((0 : Int) == (x : Int)) = false := by simp; omega
        have g3 : (0 == x) = false := by simp; omega
        clear hx
        go_wp2
        go_round
        case rel => exact ⟨j + 1, by omega, by go_num, N2⟩
        case measure => simp [intOf]; omega
    · have g1 : decide (j < m) = false := by simpa using c
      have g1' : decide ((j : Int) < (m : Int)) = false := decide_eq_false (by omega)
      have VV := Lib.hid (MISS.out (fun k hk => hN.out k (by omega)))
      go_wp2
      go_ret
      exact ⟨⟨-1, rfl, by rw [VV.out]; rfl⟩, rfl⟩

theorem iContainsZ (m g cp : Nat) (S : Nat → Nat) (hm : m ≤ 1048576) (w : World) (hU : Uc w g m S) :
    Calls Tryd.prog 70 #[.slice (some ⟨g, 0, none⟩) m cp, .int .u32 0] w fun e w' => e = .returned (.bool (zeroB m S)) ∧ w' = w := by
  have H := Lib.hid (iIndexZ m g cp S hm w hU)
  obtain ⟨V, hV⟩ : ∃ V, zeroB m S = V := ⟨_, rfl⟩
  rw [hV] at H ⊢
  clear hV hU
  go_enter Tryd.func70, Tryd.ntmps70
  go_wp2_with fail
  refine H.out.mono ?_
  rintro e w2 ⟨⟨z, rfl, hz⟩, rfl⟩
  have HZ := Lib.hid hz
  clear hz
  go_wp2
  go_ret
  exact ⟨by rw [← HZ.out]; rfl, rfl⟩

/-- What designOf gives. -/
def desC (m : Nat) (S : Nat → Nat) : Int := if zeroB m S then 6 else if 128 < m then 5 else 0
def desN (n : Int) (m : Nat) (S : Nat → Nat) : Int := if zeroB m S then 0 else if 128 < m then 0 else n
def desL (m : Nat) (S : Nat → Nat) : List (List Int) := if zeroB m S then [] else if 128 < m then [] else sortL (ptsL m S)
/-- The first i lists are there. -/
def partL (m : Nat) (L : Nat → List Int) (i : Nat) : List (List Int) := (List.range m).map (fun j => if j < i then L j else [])
theorem partL_len (m : Nat) (L : Nat → List Int) (i : Nat) : (partL m L i).length = m := by simp [partL]
theorem partL_zero (m : Nat) (L : Nat → List Int) : partL m L 0 = List.replicate m [] := by
  apply List.ext_getElem (by simp [partL])
  intro j h1 h2
  simp [partL]
theorem partL_succ (m : Nat) (L : Nat → List Int) (i : Nat) (hi : i < m) : (partL m L i).set i (L i) = partL m L (i + 1) := by
  apply List.ext_getElem (by simp [partL])
  intro j h1 h2
  simp only [List.length_set, partL_len] at h1
  rw [List.getElem_set]
  simp only [partL, List.getElem_map, List.getElem_range]
  by_cases e : i = j
  · subst e; rw [if_pos rfl, if_pos (by omega)]
  · rw [if_neg e]
    by_cases l : j < i
    · rw [if_pos l, if_pos (by omega)]
    · rw [if_neg l, if_neg (by omega)]
theorem partL_all (m : Nat) (L : Nat → List Int) : partL m L m = (List.range m).map L := by
  unfold partL
  exact List.map_congr_left fun j hj => by rw [if_pos (List.mem_range.1 hj)]

theorem set2_row (w : World) (R : Nat) (x y v0 v1 : Value) (T : TypeId) (h : w.heap[R]? = some (.cells #[x, y] T (0, 0))) :
    ((w.setCell ⟨R, 0, none⟩ v0).setCell ⟨R, 1, none⟩ v1).heap[R]? = some (.cells #[v0, v1] T (0, 0)) := by
  have h1 := heap_setCell_same w R 0 _ _ v0 h
  rw [heap_setCell_same _ R 1 _ _ v1 h1]; rfl
theorem Tryd.infoDes : (Tryd.prog.info? 27).map (·.size) = some 2 := by kernel_rfl
/-- Two stores into a block of one's own. -/
theorem Off.set2 {g R : Nat} {w w' : World} (h : Off g w w') (hR : w.heap.size ≤ R) (v0 v1 : Value) : Off g w ((w'.setCell ⟨R, 0, none⟩ v0).setCell ⟨R, 1, none⟩ v1) := by
  have hz : ((w'.setCell ⟨R, 0, none⟩ v0).setCell ⟨R, 1, none⟩ v1).heap.size = w'.heap.size := by simp [World.setCell]
  refine ⟨h.os, h.tape, h.output, by rw [hz]; exact h.size, fun k hk hn => ?_⟩
  rw [Below.heap_setCell _ _ _ k (by show k ≠ R; omega), Below.heap_setCell _ _ _ k (by show k ≠ R; omega)]
  exact h.block k hk hn
theorem RowsL.off2 {B L R : Nat} {w : World} {v : Value} {xss : List (List Int)} (h : RowsL w B L v xss) (hR : R < B) (v0 v1 : Value) : RowsL ((w.setCell ⟨R, 0, none⟩ v0).setCell ⟨R, 1, none⟩ v1) B L v xss := by
  obtain ⟨us, e, ho, h1, h2, hr, hd⟩ := h
  have hz : ((w.setCell ⟨R, 0, none⟩ v0).setCell ⟨R, 1, none⟩ v1).heap.size = w.heap.size := by simp [World.setCell]
  have hk : ∀ k, k ≠ R → ((w.setCell ⟨R, 0, none⟩ v0).setCell ⟨R, 1, none⟩ v1).heap[k]? = w.heap[k]? := fun k hk => by
    rw [Below.heap_setCell _ _ _ k (by show k ≠ R; omega), Below.heap_setCell _ _ _ k (by show k ≠ R; omega)]
  refine ⟨us, e, ownsRow_of_block ho (fun k e => hk k (by have := (World.ownsRow.lt ho k e).1; omega)), h1, by rw [hz]; exact h2, fun j hj => ?_, hd⟩
  have q := hr j hj
  exact ⟨ownsRow_of_block q.1 (fun k e => hk k (by have := (World.ownsRow.lt q.1 k e).1; omega)), q.2.1, by rw [hz]; exact q.2.2⟩

set_option maxRecDepth 100000 in
set_option maxHeartbeats 2000000 in
theorem idesC (n : Int) (m g cp : Nat) (S : Nat → Nat) (hm : m ≤ 1048576) (w : World) (hU : Uc w g m S) (hS : ∀ i, i < m → S i < 4294967296) (hg : 0 < g) (ht : Tab w) :
    Calls Tryd.prog 49 #[.int .i64 n, .slice (some ⟨g, 0, none⟩) m cp] w fun e w' => ∃ z, e = .returned (.tuple #[.agg #[.int .i64 (desN n m S), z], .int .i64 (desC m S)]) ∧ RowsL w' w.heap.size w'.heap.size z (desL m S) ∧ Off g w w' := by
  obtain ⟨B, hB⟩ : ∃ B, w.heap.size = B := ⟨_, rfl⟩
  obtain ⟨w0, hw0⟩ : ∃ w0, w.alloc (.cells #[.int .i64 0, .slice none 0 0] 27) = w0 := ⟨_, rfl⟩
  have b0 : Below B w w0 := by rw [← hw0]; exact (Below.refl _ _).alloc (Nat.le_of_eq hB.symm) _
  have z0 : w0.heap.size = B + 1 := by rw [← hw0, World.size_alloc, hB]
  have R0 : w0.heap[B]? = some (.cells #[.int .i64 0, .slice none 0 0] 27 (0, 0)) := by rw [← hw0, ← hB]; exact heap_alloc_new _ _
  have hgB : g < B := by rw [← hB]; exact hU.lt
  have O0 : Off g w w0 := Off.below (by rw [hB]; exact b0)
  have U0 := hU.below b0 hgB
  have T0 := ht.below b0 (by omega)
  have HC := Lib.hid (iContainsZ m g cp S hm w0 U0)
  have HB := Lib.hid hB
  have f00 := frozen_of_row w0 B 0 _ _ R0
  have f01 := frozen_of_row w0 B 1 _ _ R0
  have d00 : w0.cell? ⟨B, 0, none⟩ = some (.int .i64 0) := by rw [cell_of_row w0 B 0 _ _ _ R0]; rfl
  have d01 : w0.cell? ⟨B, 1, none⟩ = some (.slice none 0 0) := by rw [cell_of_row w0 B 1 _ _ _ R0]; rfl
  have HR := Lib.hid R0
  have O0 := Lib.hid O0
  clear b0 R0 ht hU
  cases hz : zeroB m S with
  | true =>
    have V : Hid (desC m S = 6 ∧ desN n m S = 0 ∧ desL m S = []) := by unfold Hid desC desN desL; rw [hz]; exact ⟨rfl, rfl, rfl⟩
    rw [hz] at HC
    clear hz
    go_enter Tryd.func49, Tryd.ntmps49
    go_wp2_with fail
    try rw [hw0]
    refine HC.out.mono ?_
    rintro e w2 ⟨rfl, rfl⟩
    go_wp2
    have R9 := set2_row w2 B _ _ (.int .i64 0) (.slice none 0 0) _ HR.out
    have O9 := O0.out.set2 (Nat.le_of_eq HB.out) (.int .i64 0) (.slice none 0 0)
    have hld := run_loadVar_row (P := Tryd.prog) _ _ 27 27 #[.int .i64 0, .slice none 0 0] (0, 0) _ R9 Tryd.underlying27 rfl Tryd.infoDes
    refine bodyPost_ret (v := .tuple #[.agg #[.int .i64 0, .slice none 0 0], .int .i64 6]) ?_ rfl ⟨_, by rw [V.out.1, V.out.2.1], ?_, O9⟩
    · rw [results_cell_tmp rfl]
      simp [asAddr, Result.andThen, hld]
    · rw [V.out.2.2]; exact RowsL.nil _ _ _ (Nat.le_refl _)
  | false =>
    rw [hz] at HC
    by_cases k : 128 < m
    · have V : Hid (desC m S = 5 ∧ desN n m S = 0 ∧ desL m S = []) := by unfold Hid desC desN desL; rw [hz, if_pos k, if_pos k, if_pos k]; exact ⟨rfl, rfl, rfl⟩
      have t1 : decide ((m : Int) > 128) = true := decide_eq_true (by omega)
      have t2 : decide ((128 : Int) < (m : Int)) = true := decide_eq_true (by omega)
      have t3 : decide (128 < m) = true := decide_eq_true k
      clear hz
      go_enter Tryd.func49, Tryd.ntmps49
      go_wp2_with fail
      try rw [hw0]
      refine HC.out.mono ?_
      rintro e w2 ⟨rfl, rfl⟩
      go_wp2
      have R9 := set2_row w2 B _ _ (.int .i64 0) (.slice none 0 0) _ HR.out
      have O9 := O0.out.set2 (Nat.le_of_eq HB.out) (.int .i64 0) (.slice none 0 0)
      have hld := run_loadVar_row (P := Tryd.prog) _ _ 27 27 #[.int .i64 0, .slice none 0 0] (0, 0) _ R9 Tryd.underlying27 rfl Tryd.infoDes
      refine bodyPost_ret (v := .tuple #[.agg #[.int .i64 0, .slice none 0 0], .int .i64 5]) ?_ rfl ⟨_, by rw [V.out.1, V.out.2.1], ?_, O9⟩
      · rw [results_cell_tmp rfl]
        simp [asAddr, Result.andThen, hld]
      · rw [V.out.2.2]; exact RowsL.nil _ _ _ (Nat.le_refl _)
    · have V : Hid (desC m S = 0 ∧ desN n m S = n ∧ desL m S = sortL (ptsL m S)) := by unfold Hid desC desN desL; rw [hz, if_neg k, if_neg k, if_neg k]; exact ⟨rfl, rfl, rfl⟩
      have t1 : decide ((m : Int) > 128) = false := decide_eq_false (by omega)
      have t2 : decide ((128 : Int) < (m : Int)) = false := decide_eq_false (by omega)
      have t3 : decide (128 < m) = false := decide_eq_false k
      have HO := Lib.hid (iorder (.slice (some ⟨g, 0, none⟩) m cp) w0 _ _ _ rfl)
      obtain ⟨w1, hw1⟩ : ∃ w1, w0.alloc (.cells #[.slice (some ⟨g, 0, none⟩) m cp] 51) = w1 := ⟨_, rfl⟩
      have b1 : Below (B + 1) w0 w1 := by rw [← hw1]; exact (Below.refl _ _).alloc (Nat.le_of_eq z0.symm) _
      have z1 : w1.heap.size = B + 2 := by rw [← hw1, World.size_alloc, z0]
      have c1 : w1.cell? ⟨B + 1, 0, none⟩ = some (.slice (some ⟨g, 0, none⟩) m cp) := by rw [← hw1, ← z0]; simp
      have U1 := U0.below b1 (by omega)
      have T1 := T0.below b1 (by omega)
      have HSO := Lib.hid (isort (B + 1) g m cp S (by omega) w1 c1 (by omega) hg U1 hS T1)
      rw [z0, hw1] at HO
      have O1 : Hid (Off g w w1) := O0.out.trans (Off.below (by rw [z0]; exact b1))
      have TB := Lib.hid T1
      have Z1 := Lib.hid z1
      have R1 : Hid (w1.heap[B]? = some (.cells #[.int .i64 0, .slice none 0 0] 27 (0, 0))) := (b1.block B (by omega)).trans HR.out
      clear hz b1 U1 T1 c1 z1 U0 T0 f00 f01 d00 d01
      go_enter Tryd.func49, Tryd.ntmps49
      go_wp2_with fail
      try rw [hw0]
      refine HC.out.mono ?_
      rintro e w2 ⟨rfl, rfl⟩
      clear hw0
      go_wp2_with fail
      refine HO.out.mono ?_
      rintro e w3 ⟨rfl, rfl⟩
      clear hw1
      go_wp2_with fail
      refine HSO.out.mono ?_
      rintro e w4 ⟨rfl, hOff, S', hU', hS', hP, hQ⟩
      have E : Hid (ptsL m S' = sortL (ptsL m S)) := ptsL_sorted hP hQ
      have O4 : Hid (Off g w w4) := O1.out.trans hOff
      have T4 : Hid (Tab w4) := TB.out.below (hOff.low hg TB.out.pos) (by omega)
      have z4 : B + 2 ≤ w4.heap.size := by have := hOff.size; have := Z1.out; omega
      have R4 : Hid (w4.heap[B]? = some (.cells #[.int .i64 0, .slice none 0 0] 27 (0, 0))) := (hOff.block B (by have := Z1.out; omega) (by omega)).trans R1.out
      have U4 := Lib.hid hU'
      have HS4 := Lib.hid hS'
      clear hOff hU' hS' hP hQ
      obtain ⟨D, hD⟩ : ∃ D, w4.heap.size = D := ⟨_, rfl⟩
      rw [hD] at z4
      have hmk := run_make_row' (P := Tryd.prog) 22 60 (.slice none 0 0) 24 Tryd.underlying22 Tryd.infoRow rfl .i64 .i64 m (by omega) (by omega) w4
      have FR := RowsL.fresh w4 m (by unfold maxLen; omega)
      rw [hD] at hmk FR
      obtain ⟨w5, hw5⟩ : ∃ w5, w4.alloc (.cells (madeCells #[.slice none 0 0] m) 60) = w5 := ⟨_, rfl⟩
      rw [hw5] at hmk FR
      have b5 : Below D w4 w5 := by rw [← hw5]; exact (Below.refl _ _).alloc (Nat.le_of_eq hD.symm) _
      have z5 : w5.heap.size = D + 1 := by rw [← hw5, World.size_alloc, hD]
      obtain ⟨L, hL⟩ : ∃ L : Nat → List Int, L = fun i => ptsN (S' i) := ⟨_, rfl⟩
      have hall : Hid (partL m L m = sortL (ptsL m S)) := by unfold Hid; rw [partL_all, hL]; exact E.out
      rw [← partL_zero m L, ← z5] at FR
      obtain ⟨K, hK⟩ : ∃ K : World → Prop, K = fun W2 => Uc W2 g m S' ∧ Tab W2 ∧ Off g w W2 ∧ D + 1 ≤ W2.heap.size ∧ W2.heap[B]? = some (.cells #[.int .i64 0, .slice none 0 0] 27 (0, 0)) := ⟨_, rfl⟩
      have K5 : Hid (K w5) := by
        rw [hK]
        exact ⟨U4.out.below b5 (by omega), T4.out.below b5 (by omega), O4.out.trans (Off.below (by rw [hD]; exact b5)), Nat.le_of_eq z5.symm, (b5.block B (by omega)).trans R4.out⟩
      have KN : Hid (∀ (W1 W2 : World), Below W1.heap.size W1 W2 → Hid (K W1) → Hid (K W2)) := fun W1 W2 bb h => by
        rw [hK] at h ⊢
        exact ⟨h.out.1.below bb h.out.1.lt, h.out.2.1.below bb h.out.2.1.pos, h.out.2.2.1.trans (Off.below bb), Nat.le_trans h.out.2.2.2.1 bb.size, (bb.block B (by have := h.out.2.2.2.1; omega)).trans h.out.2.2.2.2⟩
      have KP : Hid (∀ (W1 : World) (x : Nat) (v : Value), Hid (K W1) → Hid (K (W1.setCell ⟨D, x, none⟩ v))) := fun W1 x v h => by
        rw [hK] at h ⊢
        have hzz : (W1.setCell ⟨D, x, none⟩ v).heap.size = W1.heap.size := by simp [World.setCell]
        have bb : Below D W1 (W1.setCell ⟨D, x, none⟩ v) := (Below.refl _ _).setCell (p := ⟨D, x, none⟩) (Nat.le_refl _) v
        have q := h.out.2.2.1
        refine ⟨h.out.1.below bb (by omega), h.out.2.1.below bb (by omega), ⟨q.os, q.tape, q.output, by rw [hzz]; exact q.size, fun i hi hn => (bb.block i (by omega)).trans (q.block i hi hn)⟩, by rw [hzz]; exact h.out.2.2.2.1, (bb.block B (by omega)).trans h.out.2.2.2.2⟩
      have KC : Hid (∀ W1 i, Hid (K W1) → i < m → W1.cell? ⟨g, i, none⟩ = some (.int .u32 (S' i : Nat)) ∧ Calls Tryd.prog 64 #[.int .u32 (S' i : Nat)] W1 fun e w' => ∃ v, e = .returned v ∧ Ints w' W1.heap.size v (L i) ∧ Below W1.heap.size W1 w') := fun W1 i h hi => by
        rw [hK] at h
        rw [hL]
        exact ⟨h.out.1.cell i hi, ipoints (S' i) W1 (HS4.out i hi) h.out.2.1⟩
      have KO : Hid (∀ W1, Hid (K W1) → Off g w W1 ∧ D + 1 ≤ W1.heap.size ∧ W1.heap[B]? = some (.cells #[.int .i64 0, .slice none 0 0] 27 (0, 0))) := fun W1 h => by rw [hK] at h; exact h.out.2.2
      have LX : Hid (∀ i, (partL m L i).length = m) := fun i => partL_len m L i
      have LS : Hid (∀ i, i < m → (partL m L i).set i (L i) = partL m L (i + 1)) := fun i h => partL_succ m L i h
      have F5 := Lib.hid FR
      have BD : Hid (B + 2 ≤ D) := z4
      clear hK hL E FR U4 T4 O4 HS4 b5 z5 HSO HO HC TB R4 R1 HR O0 O1 Z1
      go_wp2
      go_loopw [26] (fun i wr => ∃ x : Nat, x ≤ m ∧ i = .int .i64 x ∧ Hid (RowsL wr D wr.heap.size (.slice (some ⟨D, 0, none⟩) m m) (partL m L x)) ∧ Hid (K wr)) (fun i _ => m - (intOf i).toNat)
      case atStart => exact ⟨0, by omega, rfl, F5, K5⟩
      case round =>
        obtain ⟨x, hx, rfl, hR, hKw⟩ := hrel
        by_cases cx : x < m
        · have k1 : decide (x < m) = true := by simpa using cx
          have k1' : decide ((x : Int) < (m : Int)) = true := decide_eq_true (by omega)
          have wx := IntWalk.i64_in ((x : Int) + 1) (by omega)
          have x0 : (0 : Int) ≤ (x : Int) := by omega
          have x1 : (x : Int) < (m : Int) := by omega
          obtain ⟨m1, hp⟩ := KC.out wr x hKw cx
          have HP := Lib.hid hp
          clear hp
          obtain ⟨s, hs⟩ : ∃ s, S' x = s := ⟨_, rfl⟩
          rw [hs] at m1 HP
          clear hs
          go_wp2_with fail
          refine HP.out.mono ?_
          rintro e w6 ⟨v, rfl, hi6, b6⟩
          obtain ⟨a6, c6, rfl⟩ := hi6.len_eq
          have R6 := hR.out.below b6 (Nat.le_refl _)
          have K6 := KN.out _ _ b6 hKw
          obtain ⟨g0, c0, ev, ⟨old, ho⟩, hf, -, -, hp⟩ := RowsL.put R6 (j := x) (by rw [LX.out]; exact cx) (by have := (KO.out wr hKw).2.1; omega) hi6
          simp only [Value.slice.injEq, Option.some.injEq, Addr.mk.injEq] at ev
          obtain ⟨⟨e5, -⟩, -, -⟩ := ev
          subst e5
          rw [LS.out x cx] at hp
          have K7 := KP.out w6 x (.slice a6 (L x).length c6) K6
          have hz7 : (w6.setCell ⟨D, x, none⟩ (.slice a6 (L x).length c6)).heap.size = w6.heap.size := by simp [World.setCell]
          rw [← hz7] at hp
          obtain ⟨w7, hw7⟩ : ∃ w7, w6.setCell ⟨D, x, none⟩ (.slice a6 (L x).length c6) = w7 := ⟨_, rfl⟩
          rw [hw7] at hp K7
          have R7 := Lib.hid hp
          clear hp hz7 R6 K6 hR hKw hi6 b6
          go_wp2
          try rw [hw7]
          go_roundw
          case rel => exact ⟨x + 1, by omega, by go_num, R7, K7⟩
          case measure => simp [intOf]; omega
        · have k1 : decide (x < m) = false := by simpa using cx
          have k1' : decide ((x : Int) < (m : Int)) = false := decide_eq_false (by omega)
          obtain rfl : x = m := by omega
          obtain ⟨O9, s9, R9⟩ := KO.out wr hKw
          have f0 := frozen_of_row wr B 0 _ _ R9
          have f1 := frozen_of_row wr B 1 _ _ R9
          have d0 : wr.cell? ⟨B, 0, none⟩ = some (.int .i64 0) := by rw [cell_of_row wr B 0 _ _ _ R9]; rfl
          have d1 : wr.cell? ⟨B, 1, none⟩ = some (.slice none 0 0) := by rw [cell_of_row wr B 1 _ _ _ R9]; rfl
          have R9 := Lib.hid R9
          have O9 := Lib.hid O9
          go_wp2
          have R8 := set2_row wr B _ _ (.int .i64 n) (.slice (some ⟨D, 0, none⟩) x x) _ R9.out
          have O8 := O9.out.set2 (Nat.le_of_eq HB.out) (.int .i64 n) (.slice (some ⟨D, 0, none⟩) x x)
          have L8 := RowsL.off2 (hR.out) (show B < D by have := BD.out; omega) (.int .i64 n) (.slice (some ⟨D, 0, none⟩) x x)
          rw [hall.out] at L8
          have hld := run_loadVar_row (P := Tryd.prog) _ _ 27 27 #[.int .i64 n, .slice (some ⟨D, 0, none⟩) x x] (0, 0) _ R8 Tryd.underlying27 rfl Tryd.infoDes
          refine bodyPost_ret (v := .tuple #[.agg #[.int .i64 n, .slice (some ⟨D, 0, none⟩) x x], .int .i64 0]) ?_ rfl ⟨_, by rw [V.out.1, V.out.2.1], ?_, O8⟩
          · rw [results_cell_tmp rfl]
            simp [asAddr, Result.andThen, hld]
          · rw [V.out.2.2]; exact L8.mono (by have := BD.out; omega) (by simp [World.setCell]) (Nat.le_refl _)

theorem ides (n : Int) (m g : Nat) (S : Nat → Nat) (hm : m ≤ 1048576) (w : World) (hU : Ub w g m S) (hS : ∀ i, i < m → S i < 4294967296) (hg : 0 < g) (ht : Tab w) :
    Calls Tryd.prog 49 #[.int .i64 n, .slice (some ⟨g, 0, none⟩) m m] w fun e w' => ∃ z, e = .returned (.tuple #[.agg #[.int .i64 (desN n m S), z], .int .i64 (desC m S)]) ∧ RowsL w' w.heap.size w'.heap.size z (desL m S) ∧ Off g w w' :=
  idesC n m g m S hm w hU.uc hS hg ht

/-! SortDesign: the program's. -/
section
open Go.RowKit Go.Shelf
set_option linter.unusedVariables false
set_option linter.unusedSimpArgs false

/-- The design with some blocks, by the document: number of points, blocks, code. -/
noncomputable def mkN (n : Int) (xss : List (List Int)) : Int := if blksB n xss then if 128 < xss.length then 0 else n else 0
noncomputable def mkL (n : Int) (xss : List (List Int)) : List (List Int) := if blksB n xss then if 128 < xss.length then [] else sortL xss else []
noncomputable def mkC (n : Int) (xss : List (List Int)) : Int := if blksB n xss then if 128 < xss.length then 5 else 0 else 1
theorem mk_no {n : Int} {xss : List (List Int)} (h : blksB n xss = false) : mkN n xss = 0 ∧ mkL n xss = [] ∧ mkC n xss = 1 := by
  unfold mkN mkL mkC; rw [h]; exact ⟨rfl, rfl, rfl⟩
theorem mk_des {n : Int} {xss : List (List Int)} {S : Nat → Nat} (hb : blksB n xss = true) (hS : SetsF xss xss.length S) : desN n xss.length S = mkN n xss ∧ desL xss.length S = mkL n xss ∧ desC xss.length S = mkC n xss := by
  have hz : zeroB xss.length S = false := zero_false fun i hi h => by
    obtain ⟨h1, h2, h3⟩ := of_blksB hb
    have b := h3 i hi
    have e := (hS i hi).2
    obtain ⟨r, hr⟩ : ∃ r, xss.getD i [] = r := ⟨_, rfl⟩
    rw [hr] at b e
    obtain ⟨x, hx⟩ : ∃ x, r.getD 0 0 = x := ⟨_, rfl⟩
    have q := b.2 0 b.1
    have hm : x ∈ r := by rw [← hx, List.getD_eq_getElem?_getD, List.getElem?_eq_getElem b.1]; exact List.getElem_mem _
    unfold okAt at q
    rw [hx] at q
    have e2 := e x.toNat
    rw [show ((x.toNat : Nat) : Int) = x by omega, decide_eq_true hm, h, Nat.zero_testBit] at e2
    cases e2
  unfold desN desL desC mkN mkL mkC
  rw [hz, hb, ptsL_of hb hS]
  exact ⟨rfl, rfl, rfl⟩

theorem dso_end : True := trivial
end
end
end Go.Proofs.YtdhlnagkhkcoiaaDoor
