/- Cycles of a permutation: the lists. -/
import Derived.Test.YtkonddifmonkcaaPn
namespace Go.Proofs.Ytkonddifmonkcaa
open Go.RowKit
set_option linter.unusedVariables false

/-- The walk from x until a number that was seen. -/
def walkC (ps : List Int) : Nat → List Int → Int → List Int
  | 0, _, _ => []
  | f + 1, S, x => if x ∈ S then [] else x :: walkC ps f (S ++ [x]) (ps.getD x.toNat 0)
theorem walkC_stop {ps S : List Int} {f : Nat} {x : Int} (h : x ∈ S) : walkC ps f S x = [] := by
  cases f with
  | zero => rfl
  | succ f => rw [walkC, if_pos h]
theorem walkC_go {ps S : List Int} {f : Nat} {x : Int} (h : ¬ x ∈ S) : walkC ps (f + 1) S x = x :: walkC ps f (S ++ [x]) (ps.getD x.toNat 0) := by rw [walkC, if_neg h]
/-- How many numbers less than n are not in S. -/
noncomputable def un : Nat → List Int → Nat
  | 0, _ => 0
  | n + 1, S => un n S + if (n : Int) ∈ S then 0 else 1
theorem un_le : ∀ (n : Nat) (S : List Int), un n S ≤ n
  | 0, _ => Nat.le_refl _
  | n + 1, S => by
    have := un_le n S
    rw [un]
    split <;> omega
theorem un_mono : ∀ (n : Nat) (S : List Int) (x : Int), un n (S ++ [x]) ≤ un n S
  | 0, _, _ => Nat.le_refl _
  | n + 1, S, x => by
    have := un_mono n S x
    rw [un, un]
    by_cases h : (n : Int) ∈ S
    · rw [if_pos h, if_pos (List.mem_append.2 (.inl h))]; omega
    · rw [if_neg h]; split <;> omega
theorem un_lt : ∀ (n : Nat) (S : List Int) (x : Nat), x < n → ¬ (x : Int) ∈ S → un n (S ++ [(x : Int)]) + 1 ≤ un n S
  | 0, _, _, h, _ => by omega
  | n + 1, S, x, h, hx => by
    rw [un, un]
    by_cases e : x = n
    · subst e
      have := un_mono x S x
      rw [if_neg hx, if_pos (List.mem_append.2 (.inr (List.mem_singleton.2 rfl)))]; omega
    · have := un_lt n S x (by omega) hx
      have e2 : ((n : Int) ∈ S ++ [(x : Int)]) ↔ (n : Int) ∈ S := by
        rw [List.mem_append, List.mem_singleton]
        constructor
        · rintro (h | h)
          · exact h
          · omega
        · exact .inl
      simp only [e2]
      omega
/-- Numbers that can be indices. -/
def Perm01 (ps : List Int) : Prop := ∀ i, i < ps.length → 0 ≤ ps.getD i 0 ∧ ps.getD i 0 < ps.length
theorem perm01 {ps : List Int} (h : pmB ps = true) : Perm01 ps := fun i hi => by have := (of_pmB h).2 i hi; unfold okPm at this; omega
/-- What was seen: numbers less than n, at most as many as are not unseen. -/
def SeenOk (n : Nat) (S : List Int) : Prop := un n S + S.length ≤ n ∧ ∀ x ∈ S, 0 ≤ x ∧ x < n
theorem SeenOk.nil (n : Nat) : SeenOk n [] := ⟨by have := un_le n []; simpa using this, fun x h => by cases h⟩
theorem SeenOk.push {n : Nat} {S : List Int} {x : Nat} (h : SeenOk n S) (hx : x < n) (hn : ¬ (x : Int) ∈ S) : SeenOk n (S ++ [(x : Int)]) := by
  refine ⟨?_, fun y hy => ?_⟩
  · have := un_lt n S x hx hn; have := h.1; rw [List.length_append]; simp only [List.length_cons, List.length_nil]; omega
  · rcases List.mem_append.1 hy with hy | hy
    · exact h.2 y hy
    · rw [List.mem_singleton.1 hy]; omega
theorem walkC_ok {ps : List Int} (hp : Perm01 ps) : ∀ (f : Nat) (S : List Int) (x : Nat), SeenOk ps.length S → x < ps.length → SeenOk ps.length (S ++ walkC ps f S x)
  | 0, S, x, h, hx => by rw [walkC, List.append_nil]; exact h
  | f + 1, S, x, h, hx => by
    by_cases e : (x : Int) ∈ S
    · rw [walkC_stop e, List.append_nil]; exact h
    · rw [walkC_go e, Int.toNat_natCast]
      have h2 := hp x hx
      obtain ⟨y, hy⟩ : ∃ y : Nat, ps.getD x 0 = y := ⟨(ps.getD x 0).toNat, by omega⟩
      rw [hy] at h2 ⊢
      have := walkC_ok hp f (S ++ [(x : Int)]) y (h.push hx e) (by omega)
      rwa [List.append_assoc, List.singleton_append] at this
/-- What was seen and what was found when j numbers are done. -/
noncomputable def cst (ps : List Int) : Nat → List Int × List (List Int)
  | 0 => ([], [])
  | j + 1 => if (j : Int) ∈ (cst ps j).1 then cst ps j else ((cst ps j).1 ++ walkC ps (ps.length + 1) (cst ps j).1 j, (cst ps j).2 ++ [walkC ps (ps.length + 1) (cst ps j).1 j])
theorem cst_skip {ps : List Int} {j : Nat} (h : (j : Int) ∈ (cst ps j).1) : cst ps (j + 1) = cst ps j := by rw [cst, if_pos h]
theorem cst_go {ps : List Int} {j : Nat} (h : ¬ (j : Int) ∈ (cst ps j).1) : (cst ps (j + 1)).1 = (cst ps j).1 ++ walkC ps (ps.length + 1) (cst ps j).1 j ∧ (cst ps (j + 1)).2 = (cst ps j).2 ++ [walkC ps (ps.length + 1) (cst ps j).1 j] := by rw [cst, if_neg h]; exact ⟨rfl, rfl⟩
noncomputable def cyclesL (ps : List Int) : List (List Int) := (cst ps ps.length).2
theorem cst_ok {ps : List Int} (hp : Perm01 ps) : ∀ j, j ≤ ps.length → SeenOk ps.length (cst ps j).1 ∧ tot (cst ps j).2 = (cst ps j).1.length ∧ (cst ps j).2.length ≤ j
  | 0, _ => ⟨SeenOk.nil _, rfl, Nat.le_refl _⟩
  | j + 1, h => by
    obtain ⟨h1, h2, h3⟩ := cst_ok hp j (by omega)
    by_cases e : (j : Int) ∈ (cst ps j).1
    · rw [cst_skip e]; exact ⟨h1, h2, by omega⟩
    · obtain ⟨e1, e2⟩ := cst_go e
      rw [e1, e2]
      refine ⟨walkC_ok hp _ _ _ h1 (by omega), ?_, by rw [List.length_append]; simp; omega⟩
      rw [tot_append, h2, List.length_append, tot_cons, tot_nil]; omega
theorem cyclesL_len {ps : List Int} (hp : Perm01 ps) : (cyclesL ps).length ≤ ps.length ∧ tot (cyclesL ps) ≤ ps.length := by
  obtain ⟨h1, h2, h3⟩ := cst_ok hp ps.length (Nat.le_refl _)
  have := h1.1
  unfold cyclesL
  omega
/-- The walk, a step at a time. -/
structure InWalk (ps S : List Int) (i : Nat) (acc : List Int) (x : Int) : Prop where
  ok : SeenOk ps.length (S ++ acc)
  eq : ∃ f, un ps.length (S ++ acc) < f ∧ acc ++ walkC ps f (S ++ acc) x = walkC ps (ps.length + 1) S i
  xr : 0 ≤ x ∧ x < ps.length
theorem InWalk.start {ps S : List Int} {i : Nat} (h : SeenOk ps.length S) (hi : i < ps.length) : InWalk ps S i [] i :=
  ⟨by rw [List.append_nil]; exact h, ⟨ps.length + 1, by rw [List.append_nil]; have := un_le ps.length S; omega, by simp⟩, by omega⟩
theorem InWalk.next {ps S : List Int} {i : Nat} {acc : List Int} {x : Nat} (hp : Perm01 ps) (h : InWalk ps S i acc x) (hx : ¬ (x : Int) ∈ S ++ acc) : InWalk ps S i (acc ++ [(x : Int)]) (ps.getD x 0) := by
  obtain ⟨h1, ⟨f, hf, he⟩, h3⟩ := h
  have xl : x < ps.length := by omega
  have hu := un_lt ps.length (S ++ acc) x xl hx
  rw [List.append_assoc] at hu
  refine ⟨by rw [← List.append_assoc]; exact h1.push xl hx, ?_, hp x xl⟩
  obtain ⟨f', rfl⟩ : ∃ f', f = f' + 1 := ⟨f - 1, by omega⟩
  refine ⟨f', by omega, ?_⟩
  rw [walkC_go hx, Int.toNat_natCast] at he
  rw [← he, List.append_assoc, List.append_assoc]
  rfl
theorem InWalk.stop {ps S : List Int} {i : Nat} {acc : List Int} {x : Int} (h : InWalk ps S i acc x) (hx : x ∈ S ++ acc) : acc = walkC ps (ps.length + 1) S i := by
  obtain ⟨_, ⟨f, _, he⟩, _⟩ := h
  rw [walkC_stop hx, List.append_nil] at he
  exact he
theorem InWalk.accLen {ps S : List Int} {i : Nat} {acc : List Int} {x : Int} (h : InWalk ps S i acc x) : acc.length ≤ ps.length := by
  have := h.ok.1; rw [List.length_append] at this; omega
theorem InWalk.room {ps S : List Int} {i : Nat} {acc : List Int} {x : Nat} (h : InWalk ps S i acc x) (hx : ¬ (x : Int) ∈ S ++ acc) : acc.length < ps.length := by
  have h1 := h.ok.1
  have := un_lt ps.length (S ++ acc) x (by have := h.xr; omega) hx
  rw [List.length_append] at h1; omega
end Go.Proofs.Ytkonddifmonkcaa
