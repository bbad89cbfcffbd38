/- SymbolColumns: both sides. -/
import Derived.Test.YtigcgpgkpkoodaaDoorIsf
namespace Go.Proofs.YtigcgpgkpkoodaaDoor
open Go.RowKit Go.Shelf
set_option linter.unusedVariables false

/-- The columns up to y in which a number stands. -/
def stands (r : List Int) (s : Int) : Nat → List Int
  | 0 => []
  | y + 1 => stands r s y ++ (if r.getD y 0 = s then [((y : Nat) : Int)] else [])
/-- The first column in which it stands. -/
def firstAt (r : List Int) (s : Int) : Nat → Int
  | 0 => -1
  | y + 1 => if firstAt r s y = -1 then (if r.getD y 0 = s then ((y : Nat) : Int) else -1) else firstAt r s y
/-- In a permutation a number stands once. -/
theorem pm_inj {r : List Int} {n : Nat} (hl : r.length = n) (h : pmB r = true) {a b : Nat} (ha : a < n) (hb : b < n) (e : r.getD a 0 = r.getD b 0) : a = b := by
  have key : ∀ a b : Nat, a < b → b < n → r.getD a 0 ≠ r.getD b 0 := fun a b hab hb e => by
    have := ((of_pmB h).2 b (by omega)).2.2
    apply this
    rw [← e]
    have ht : a < (r.take b).length := by rw [List.length_take]; omega
    have : (r.take b)[a] = r.getD a 0 := by simp [List.getD, List.getElem?_eq_getElem (show a < r.length by omega)]
    rw [← this]
    exact List.getElem_mem ht
  rcases Nat.lt_trichotomy a b with c | c | c
  · exact absurd e (key a b c hb)
  · exact c
  · exact absurd e.symm (key b a c ha)
theorem stands_none {r : List Int} {s : Int} : ∀ y, (∀ k, k < y → r.getD k 0 ≠ s) → stands r s y = [] ∧ firstAt r s y = -1
  | 0, _ => ⟨rfl, rfl⟩
  | y + 1, h => by
    obtain ⟨h1, h2⟩ := stands_none y (fun k hk => h k (by omega))
    rw [stands, firstAt, h1, h2, if_pos rfl, if_neg (h y (by omega)), if_neg (h y (by omega))]
    exact ⟨rfl, rfl⟩
theorem stands_one {r : List Int} {s : Int} {p : Nat} (hp : r.getD p 0 = s) : ∀ d, (∀ k, k < p + 1 + d → r.getD k 0 = s → k = p) → stands r s (p + 1 + d) = [((p : Nat) : Int)] ∧ firstAt r s (p + 1 + d) = p
  | 0, h => by
    obtain ⟨h1, h2⟩ := stands_none (r := r) (s := s) p (fun k hk e => by have := h k (by omega) e; omega)
    rw [Nat.add_zero, stands, firstAt, h1, h2, if_pos rfl, if_pos hp, if_pos hp]
    exact ⟨rfl, rfl⟩
  | d + 1, h => by
    obtain ⟨h1, h2⟩ := stands_one hp d (fun k hk e => h k (by omega) e)
    have ne : r.getD (p + 1 + d) 0 ≠ s := fun e => by have := h _ (by omega) e; omega
    rw [← Nat.add_assoc, stands, firstAt, h1, h2, if_neg ne, if_neg (by omega), List.append_nil]
    exact ⟨rfl, rfl⟩
theorem pm_surj_aux : ∀ (n : Nat) (r : List Int), r.length = n → (∀ i, i < n → 0 ≤ r.getD i 0 ∧ r.getD i 0 < n) → (∀ a b, a < n → b < n → r.getD a 0 = r.getD b 0 → a = b) → ∀ s : Int, 0 ≤ s → s < n → ∃ p, p < n ∧ r.getD p 0 = s := by
  intro n r hl hr hi s h0 h1
  by_cases c : ∃ p, p < n ∧ r.getD p 0 = s
  · exact c
  · exfalso
    have inj : List.Nodup r := by
      rw [List.nodup_iff_pairwise_ne, List.pairwise_iff_getElem]
      intro i j hi' hj hij e
      have := hi i j (by omega) (by omega) (by simp [List.getD, List.getElem?_eq_getElem hi', List.getElem?_eq_getElem hj, e])
      omega
    have sub : r ⊆ (List.range n).map (fun i : Nat => (i : Int)) := by
      intro x hx
      obtain ⟨i, hi', rfl⟩ := List.getElem_of_mem hx
      have := hr i (by omega)
      have e : r.getD i 0 = r[i] := by simp [List.getD, List.getElem?_eq_getElem hi']
      rw [e] at this
      exact List.mem_map.2 ⟨(r[i]).toNat, List.mem_range.2 (by omega), by omega⟩
    have sub2 : r ⊆ ((List.range n).map (fun i : Nat => (i : Int))).erase s := by
      intro x hx
      have hne : x ≠ s := fun e => c (by
        obtain ⟨i, hi', e2⟩ := List.getElem_of_mem hx
        exact ⟨i, by omega, by rw [← e, ← e2]; simp [List.getD, List.getElem?_eq_getElem hi']⟩)
      exact (List.mem_erase_of_ne hne).2 (sub hx)
    have hs : s ∈ (List.range n).map (fun i : Nat => (i : Int)) := List.mem_map.2 ⟨s.toNat, List.mem_range.2 (by omega), by omega⟩
    have := inj.length_le_of_subset sub2
    rw [List.length_erase_of_mem hs, List.length_map, List.length_range] at this
    omega
theorem pm_surj {r : List Int} {n : Nat} (hl : r.length = n) (h : pmB r = true) {s : Int} (h0 : 0 ≤ s) (h1 : s < n) : ∃ p, p < n ∧ r.getD p 0 = s :=
  pm_surj_aux n r hl (fun i hi => pm_mem hl h hi) (fun a b ha hb e => pm_inj hl h ha hb e) s h0 h1
/-- A number of the degree stands in one column. -/
theorem pm_stands {r : List Int} {n : Nat} (hl : r.length = n) (h : pmB r = true) {s : Int} (h0 : 0 ≤ s) (h1 : s < n) : stands r s n = [firstAt r s n] := by
  obtain ⟨p, hp, e⟩ := pm_surj hl h h0 h1
  obtain ⟨d, hd⟩ : ∃ d, n = p + 1 + d := ⟨n - (p + 1), by omega⟩
  obtain ⟨e1, e2⟩ := stands_one e d (fun k hk ek => pm_inj hl h (by omega) hp (by rw [ek, e]))
  rw [← hd] at e1 e2
  rw [e1, e2]
end Go.Proofs.YtigcgpgkpkoodaaDoor
