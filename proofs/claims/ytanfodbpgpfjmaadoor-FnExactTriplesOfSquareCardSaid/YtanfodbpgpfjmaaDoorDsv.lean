/- Lists in order: what sorting gives. Mathematics alone. -/
import Derived.Test.YtanfodbpgpfjmaaDoorSoh
import Derived.Test.YtanfodbpgpfjmaaDoorInc
namespace Go.Proofs.YtanfodbpgpfjmaaDoor
open Go.RowKit
set_option linter.unusedVariables false
set_option linter.unusedSimpArgs false

/-- In order. -/
def Ordd (L : List (List Int)) : Prop := L.Pairwise (fun a b => cmpL a b ≤ 0)
theorem cmp_le_trans {a b c : List Int} (h1 : cmpL a b ≤ 0) (h2 : cmpL b c ≤ 0) : cmpL a c ≤ 0 := (cmp_trans a b c h1 h2).1
theorem cmp_not {a b : List Int} (h : 0 < cmpL a b) : cmpL b a ≤ 0 := by have := cmp_anti a b; omega
theorem ord_unique : ∀ (L M : List (List Int)), L.Perm M → Ordd L → Ordd M → L = M
  | [], M, h, _, _ => by rw [List.nil_perm.1 h]
  | a :: L, [], h, _, _ => by cases List.perm_nil.1 h
  | a :: L, b :: M, h, h1, h2 => by
    have ha : a ∈ b :: M := h.mem_iff.1 (List.mem_cons_self ..)
    have hb : b ∈ a :: L := h.mem_iff.2 (List.mem_cons_self ..)
    have e : a = b := by
      rcases List.mem_cons.1 ha with e | m1
      · exact e
      · rcases List.mem_cons.1 hb with e | m2
        · exact e.symm
        · have q1 := (List.pairwise_cons.1 h2).1 a m1
          have q2 := (List.pairwise_cons.1 h1).1 b m2
          have := cmp_anti a b
          exact cmp_eq0 a b (by omega)
    subst e
    rw [ord_unique L M (List.Perm.cons_inv h) (List.pairwise_cons.1 h1).2 (List.pairwise_cons.1 h2).2]

/-- Where a list goes: behind all that are not greater, from the end. -/
def place (L : List (List Int)) (x : List Int) : Nat → Nat
  | 0 => 0
  | k + 1 => if 0 < cmpL (L.getD k []) x then place L x k else k + 1
def insAt (L : List (List Int)) (x : List Int) (k : Nat) : List (List Int) := L.take k ++ x :: L.drop k
def insL (L : List (List Int)) (x : List Int) : List (List Int) := insAt L x (place L x L.length)
def sortL (xss : List (List Int)) : List (List Int) := xss.foldl insL []
theorem place_le (L : List (List Int)) (x : List Int) : ∀ k, place L x k ≤ k
  | 0 => Nat.le_refl _
  | k + 1 => by rw [place]; split; exact Nat.le_succ_of_le (place_le L x k); exact Nat.le_refl _
theorem place_gt (L : List (List Int)) (x : List Int) : ∀ k j, place L x k ≤ j → j < k → 0 < cmpL (L.getD j []) x
  | 0, j, _, h => by omega
  | k + 1, j, h1, h2 => by
    rw [place] at h1
    by_cases c : 0 < cmpL (L.getD k []) x
    · rw [if_pos c] at h1
      by_cases e : j = k
      · rw [e]; exact c
      · exact place_gt L x k j h1 (by omega)
    · rw [if_neg c] at h1; omega
theorem place_last (L : List (List Int)) (x : List Int) : ∀ k, 0 < place L x k → ¬ 0 < cmpL (L.getD (place L x k - 1) []) x
  | 0, h => by cases h
  | k + 1, h => by
    rw [place] at h ⊢
    by_cases c : 0 < cmpL (L.getD k []) x
    · rw [if_pos c] at h ⊢; exact place_last L x k h
    · rw [if_neg c, Nat.add_sub_cancel]; exact c
theorem insL_len (L : List (List Int)) (x : List Int) : (insL L x).length = L.length + 1 := by
  have := place_le L x L.length
  simp [insL, insAt]; omega
theorem insL_perm (L : List (List Int)) (x : List Int) : (insL L x).Perm (x :: L) := by
  unfold insL insAt
  refine List.perm_middle.trans ?_
  rw [List.take_append_drop]
theorem mem_getD {L : List (List Int)} {y : List Int} (h : y ∈ L) : ∃ i, i < L.length ∧ L.getD i [] = y := by
  obtain ⟨i, hi, e⟩ := List.mem_iff_getElem.1 h
  exact ⟨i, hi, by rw [List.getD_eq_getElem?_getD, List.getElem?_eq_getElem hi]; exact e⟩
theorem ord_at {L : List (List Int)} (h : Ordd L) {i j : Nat} (hij : i ≤ j) (hj : j < L.length) : cmpL (L.getD i []) (L.getD j []) ≤ 0 := by
  by_cases e : i = j
  · rw [e, cmp_refl]; omega
  · have := List.pairwise_iff_getElem.1 h i j (by omega) hj (by omega)
    rw [List.getD_eq_getElem?_getD, List.getD_eq_getElem?_getD, List.getElem?_eq_getElem (by omega : i < L.length), List.getElem?_eq_getElem hj]
    exact this
theorem insL_ord {L : List (List Int)} (x : List Int) (h : Ordd L) : Ordd (insL L x) := by
  unfold insL insAt Ordd
  have hk := place_le L x L.length
  have hgt := place_gt L x L.length
  have hla := place_last L x L.length
  generalize place L x L.length = k at hk hgt hla
  have left : ∀ a ∈ L.take k, cmpL a x ≤ 0 := fun a ha => by
    obtain ⟨i, hi, e⟩ := mem_getD ha
    rw [List.length_take] at hi
    have e2 : L.getD i [] = a := by rw [← e]; simp [List.getD_eq_getElem?_getD, show i < k by omega]
    rw [← e2]
    exact cmp_le_trans (ord_at h (show i ≤ k - 1 by omega) (by omega)) (by have := hla (by omega); omega)
  have right : ∀ b ∈ L.drop k, cmpL x b ≤ 0 := fun b hb => by
    obtain ⟨i, hi, e⟩ := mem_getD hb
    rw [List.length_drop] at hi
    have e2 : L.getD (k + i) [] = b := by rw [← e]; simp [List.getD_eq_getElem?_getD, List.getElem?_drop]
    rw [← e2]
    exact cmp_not (hgt (k + i) (by omega) (by omega))
  rw [List.pairwise_append]
  refine ⟨List.Pairwise.sublist (List.take_sublist k L) h, ?_, fun a ha b hb => ?_⟩
  · rw [List.pairwise_cons]
    exact ⟨right, List.Pairwise.sublist (List.drop_sublist k L) h⟩
  · rcases List.mem_cons.1 hb with e | e
    · rw [e]; exact left a ha
    · exact cmp_le_trans (left a ha) (right b e)
theorem fold_perm (xss : List (List Int)) : ∀ acc, (xss.foldl insL acc).Perm (acc ++ xss) := by
  induction xss with
  | nil => intro acc; simp
  | cons x xs ih =>
    intro acc
    refine (ih (insL acc x)).trans ?_
    have := (insL_perm acc x).append_right xs
    exact this.trans (by rw [List.cons_append]; exact List.perm_middle.symm)
theorem fold_ord (xss : List (List Int)) : ∀ acc, Ordd acc → Ordd (xss.foldl insL acc) := by
  induction xss with
  | nil => intro acc h; exact h
  | cons x xs ih => intro acc h; exact ih _ (insL_ord x h)
theorem sortL_perm (xss : List (List Int)) : (sortL xss).Perm xss := by have := fold_perm xss []; rw [List.nil_append] at this; exact this
theorem sortL_ord (xss : List (List Int)) : Ordd (sortL xss) := fold_ord xss [] (List.Pairwise.nil)
theorem sortL_len (xss : List (List Int)) : (sortL xss).length = xss.length := (sortL_perm xss).length_eq
theorem sortL_of {xss L : List (List Int)} (h : L.Perm xss) (ho : Ordd L) : L = sortL xss := ord_unique L _ (h.trans (sortL_perm xss).symm) ho (sortL_ord xss)
theorem sortL_of_ord {xss : List (List Int)} (ho : Ordd xss) : sortL xss = xss := (sortL_of (List.Perm.refl _) ho).symm
/-- The next step. -/
theorem sortL_take (xss : List (List Int)) (i : Nat) (hi : i < xss.length) : sortL (xss.take (i + 1)) = insL (sortL (xss.take i)) (xss.getD i []) := by
  unfold sortL
  have e : xss.take (i + 1) = xss.take i ++ [xss.getD i []] := by
    rw [List.take_add_one, List.getElem?_eq_getElem hi, List.getD_eq_getElem?_getD, List.getElem?_eq_getElem hi]; rfl
  rw [e, List.foldl_append]
  rfl

/-- The lists of points of m sets. -/
def ptsL (m : Nat) (S : Nat → Nat) : List (List Int) := (List.range m).map (fun i => ptsN (S i))
theorem ptsL_len (m : Nat) (S : Nat → Nat) : (ptsL m S).length = m := by simp [ptsL]
theorem ptsL_at (m : Nat) (S : Nat → Nat) (i : Nat) (hi : i < m) : (ptsL m S).getD i [] = ptsN (S i) := by
  unfold ptsL; rw [List.getD_eq_getElem?_getD, List.getElem?_eq_getElem (by simpa using hi)]; simp
theorem ptsL_sorted {m : Nat} {S S' : Nat → Nat} (hp : ((List.range m).map S').Perm ((List.range m).map S)) (ho : ∀ i j, i < j → j < m → cmpL (ptsN (S' i)) (ptsN (S' j)) ≤ 0) : ptsL m S' = sortL (ptsL m S) := by
  refine sortL_of ?_ ?_
  · have := hp.map ptsN
    rw [List.map_map, List.map_map] at this
    exact this
  · unfold Ordd
    rw [List.pairwise_iff_getElem]
    intro i j hi hj hij
    rw [ptsL_len] at hi hj
    have := ho i j hij hj
    simpa [ptsL] using this
theorem ptsL_of {n : Int} {xss : List (List Int)} {S : Nat → Nat} (hb : blksB n xss = true) (hS : SetsF xss xss.length S) : ptsL xss.length S = xss := by
  obtain ⟨h1, h2, h3⟩ := of_blksB hb
  apply List.ext_getElem (by rw [ptsL_len])
  intro i hi hi2
  have e := blk_fls h2 (h3 i hi2).2 (hS i hi2).2
  rw [List.getD_eq_getElem?_getD, List.getElem?_eq_getElem hi2] at e
  simp only [Option.getD_some] at e
  rw [← e]
  simp only [ptsL, List.getElem_map, List.getElem_range]
  rfl
/-- Whether one of m sets is empty. -/
def zeroB (m : Nat) (S : Nat → Nat) : Bool := (List.range m).any (fun i => S i == 0)
theorem zero_true {m i : Nat} {S : Nat → Nat} (hi : i < m) (h : S i = 0) : zeroB m S = true := by
  unfold zeroB; rw [List.any_eq_true]; exact ⟨i, List.mem_range.2 hi, by simp [h]⟩
theorem zero_false {m : Nat} {S : Nat → Nat} (h : ∀ i, i < m → S i ≠ 0) : zeroB m S = false := by
  unfold zeroB; rw [List.any_eq_false]; intro i hi; simpa using h i (List.mem_range.1 hi)
end Go.Proofs.YtanfodbpgpfjmaaDoor
