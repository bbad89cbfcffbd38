/- PermutationOfCycles: the lists; the model. -/
import Derived.Test.YtkonddifmonkcaaSc
import Derived.Test.YtkonddifmonkcaaIv
import Derived.Test.YtkonddifmonkcaaRowA
namespace Go.Proofs.Ytkonddifmonkcaa
open Go.RowKit
set_option linter.unusedVariables false

def okC (m : Nat) : List Int → List Int → Bool
  | _, [] => true
  | S, x :: xs => decide (0 ≤ x ∧ x ≤ (m : Int) - 1) && (!decide (x ∈ S) && okC m (S ++ [x]) xs)
def asg (out c : List Int) : Nat → List Int
  | 0 => out
  | k + 1 => (asg out c k).set (c.getD k 0).toNat (c.getD ((k + 1) % c.length) 0)
theorem asg_length (out c : List Int) : ∀ k, (asg out c k).length = out.length
  | 0 => rfl
  | k + 1 => by rw [asg, List.length_set, asg_length out c k]
def poc (m : Nat) : List Int → List Int → List (List Int) → Option (List Int)
  | _, out, [] => some out
  | S, out, c :: cs => if c.length = 0 then none else if okC m S c = true then poc m (S ++ c) (asg out c c.length) cs else none
theorem poc_nil (m : Nat) (S out : List Int) {cs : List (List Int)} {j : Nat} (h : cs.length ≤ j) : poc m S out (cs.drop j) = some out := by
  rw [List.drop_of_length_le h]; rfl
theorem dropL {cs : List (List Int)} {j : Nat} (h : j < cs.length) : cs.drop j = cs.getD j [] :: cs.drop (j + 1) := by
  rw [List.drop_eq_getElem_cons h, List.getD_eq_getElem?_getD, List.getElem?_eq_getElem h]; rfl
theorem dropI {xs : List Int} {i : Nat} (h : i < xs.length) : xs.drop i = xs.getD i 0 :: xs.drop (i + 1) := by
  rw [List.drop_eq_getElem_cons h, List.getD_eq_getElem?_getD, List.getElem?_eq_getElem h]; rfl
theorem poc_empty {m : Nat} {S out : List Int} {cs : List (List Int)} {j : Nat} (h : j < cs.length) (h0 : (cs.getD j []).length = 0) : poc m S out (cs.drop j) = none := by
  rw [dropL h, poc, if_pos h0]
theorem poc_bad {m : Nat} {S out : List Int} {cs : List (List Int)} {j : Nat} (h : j < cs.length) (h0 : okC m S (cs.getD j []) = false) : poc m S out (cs.drop j) = none := by
  rw [dropL h, poc]
  split
  · rfl
  · rw [if_neg (by rw [h0]; simp)]
theorem poc_good {m : Nat} {S out : List Int} {cs : List (List Int)} {j : Nat} (h : j < cs.length) (h0 : (cs.getD j []).length ≠ 0) (h1 : okC m S (cs.getD j []) = true) :
    poc m S out (cs.drop j) = poc m (S ++ cs.getD j []) (asg out (cs.getD j []) (cs.getD j []).length) (cs.drop (j + 1)) := by
  rw [dropL h, poc, if_neg h0, if_pos h1]
theorem okC_step {m : Nat} {S c : List Int} {k : Nat} (h : k < c.length) : okC m S (c.drop k) = (decide (0 ≤ c.getD k 0 ∧ c.getD k 0 ≤ (m : Int) - 1) && (!decide (c.getD k 0 ∈ S) && okC m (S ++ [c.getD k 0]) (c.drop (k + 1)))) := by
  rw [dropI h, okC]
theorem okC_end {m : Nat} {S c : List Int} : okC m S (c.drop c.length) = true := by rw [List.drop_length]; rfl
theorem okC_range {m : Nat} : ∀ (c S : List Int), okC m S c = true → ∀ k, k < c.length → 0 ≤ c.getD k 0 ∧ c.getD k 0 < m
  | [], _, _, k, hk => by simp at hk
  | x :: xs, S, h, k, hk => by
    rw [okC, Bool.and_eq_true, Bool.and_eq_true, decide_eq_true_eq] at h
    obtain ⟨h1, _, h3⟩ := h
    match k, hk with
    | 0, _ => simp only [List.getD_cons_zero]; omega
    | k + 1, hk =>
      rw [List.getD_cons_succ]
      exact okC_range xs _ h3 k (by simp at hk; omega)
theorem takeI_snoc {S c : List Int} {k : Nat} (h : k < c.length) : S ++ c.take (k + 1) = (S ++ c.take k) ++ [c.getD k 0] := by rw [takeI_getD h, List.append_assoc]
/-- What is answered. -/
def PermutationOfCycles_0 (n : Int) (cs : List (List Int)) : List Int := if 0 ≤ n ∧ n ≤ 32 then (poc n.toNat [] (oneL n.toNat) cs).getD [] else []
def PermutationOfCycles_1 (n : Int) (cs : List (List Int)) : Int := if 0 ≤ n ∧ n ≤ 32 then (if (poc n.toNat [] (oneL n.toNat) cs).isSome = true then 0 else 2) else 2
theorem Poc_out {n : Int} {cs : List (List Int)} (h : ¬ (0 ≤ n ∧ n ≤ 32)) : PermutationOfCycles_0 n cs = [] ∧ PermutationOfCycles_1 n cs = 2 := by unfold PermutationOfCycles_0 PermutationOfCycles_1; rw [if_neg h, if_neg h]; exact ⟨rfl, rfl⟩
theorem Poc_none {m : Nat} {cs : List (List Int)} (h : m ≤ 32) (e : poc m [] (oneL m) cs = none) : PermutationOfCycles_0 m cs = [] ∧ PermutationOfCycles_1 m cs = 2 := by
  have h' : 0 ≤ (m : Int) ∧ (m : Int) ≤ 32 := by omega
  unfold PermutationOfCycles_0 PermutationOfCycles_1; rw [if_pos h', if_pos h', Int.toNat_natCast, e]; exact ⟨rfl, rfl⟩
theorem Poc_some {m : Nat} {cs : List (List Int)} {r : List Int} (h : m ≤ 32) (e : poc m [] (oneL m) cs = some r) : PermutationOfCycles_0 m cs = r ∧ PermutationOfCycles_1 m cs = 0 := by
  have h' : 0 ≤ (m : Int) ∧ (m : Int) ≤ 32 := by omega
  unfold PermutationOfCycles_0 PermutationOfCycles_1; rw [if_pos h', if_pos h', Int.toNat_natCast, e]; exact ⟨rfl, rfl⟩
theorem poc_len (m : Nat) : ∀ (cs : List (List Int)) (S out r : List Int), poc m S out cs = some r → r.length = out.length
  | [], S, out, r, h => by simp only [poc, Option.some.injEq] at h; rw [h]
  | c :: cs, S, out, r, h => by
    rw [poc] at h
    split at h
    · cases h
    · split at h
      · rw [poc_len m cs _ _ r h, asg_length]
      · cases h
theorem lenPermutationOfCycles_0 (n : Int) (cs : List (List Int)) (hn : I64 n) (hc : SmallLL cs) : (PermutationOfCycles_0 n cs).length ≤ 1000000 := by
  by_cases h : 0 ≤ n ∧ n ≤ 32
  · obtain ⟨m, rfl⟩ : ∃ m : Nat, n = m := ⟨n.toNat, by omega⟩
    cases e : poc m [] (oneL m) cs with
    | none => rw [(Poc_none (by omega) e).1]; simp
    | some r => rw [(Poc_some (by omega) e).1, poc_len m cs _ _ r e, oneL_length]; omega
  · rw [(Poc_out h).1]; simp

theorem Ints.store {w : World} {B g m cap t : Nat} {xs : List Int} {y : Int} (h : Ints w B (.slice (some ⟨g, 0, none⟩) m cap) xs) (hm : xs.length = m) : Ints (w.setCell ⟨g, t, none⟩ (.int .i64 y)) B (.slice (some ⟨g, 0, none⟩) m cap) (xs.set t y) := by
  unfold Ints at h ⊢
  rw [List.length_set, hm, List.map_set]
  rw [hm] at h
  exact (h.stored t (.int .i64 y)).1
theorem Ints.hasCell {w : World} {B g m cap t : Nat} {xs : List Int} (h : Ints w B (.slice (some ⟨g, 0, none⟩) m cap) xs) (hm : xs.length = m) (ht : t < m) : (∃ old, w.cell? ⟨g, t, none⟩ = some old) ∧ w.frozen? ⟨g, t, none⟩ = false := by
  unfold Ints at h
  rw [hm] at h
  refine ⟨?_, h.frozenAt t⟩
  rw [h.cellAt t (by omega), List.getElem?_eq_getElem (by rw [List.length_map]; omega)]; exact ⟨_, rfl⟩
theorem Ints.slot {w : World} {B : Nat} {v : Value} {xs : List Int} (h : Ints w B v xs) (h0 : 0 < xs.length) : ∃ g cap, v = .slice (some ⟨g, 0, none⟩) xs.length cap := by
  obtain ⟨_, ⟨rfl, h2⟩ | ⟨g, cap, cur, rfl, _⟩⟩ := h
  · omega
  · exact ⟨g, cap, rfl⟩
/-- The rows of a slice of slices, with what is in them. -/
theorem RowsAt.full {w : World} {v : Value} {xss : List (List Int)} (h : RowsAt w v xss) : ∃ a cap, v = .slice a xss.length cap ∧ ∀ j, j < xss.length → ∃ g off b c, a = some ⟨g, off, none⟩ ∧ g < w.heap.size ∧ w.cell? ⟨g, off + j, none⟩ = some (.slice b (xss.getD j []).length c) ∧
    ∀ k, k < (xss.getD j []).length → ∃ g' off', b = some ⟨g', off', none⟩ ∧ g' < w.heap.size ∧ w.cell? ⟨g', off' + k, none⟩ = some (.int .i64 ((xss.getD j []).getD k 0)) := by
  obtain ⟨a, cap, e, hc⟩ := h.shape
  refine ⟨a, cap, e, fun j hj => ?_⟩
  obtain ⟨g, off, u, h1, h2, h3⟩ := hc j hj
  obtain ⟨b, c, e2, h4⟩ := part2 h3
  rw [e2] at h2
  exact ⟨g, off, b, c, h1, World.block_lt_of_cell? w _ h2, h2, h4⟩
end Go.Proofs.Ytkonddifmonkcaa
