/- Designs: what is valid; the texts of sets are ordered like the lists of their points. Mathematics alone. -/
import Derived.Test.YtdhlnagkhkcoiaaDoorBit
import Derived.Test.YtdhlnagkhkcoiaaDoorCmp
import Derived.Test.YtdhlnagkhkcoiaaDoorLim
namespace Go.Proofs.YtdhlnagkhkcoiaaDoor
open Go.RowKit
set_option linter.unusedVariables false

theorem cmp_three : ∀ xs ys : List Int, cmpL xs ys = -1 ∨ cmpL xs ys = 0 ∨ cmpL xs ys = 1
  | [], [] => .inr (.inl rfl)
  | [], _ :: _ => .inl rfl
  | _ :: _, [] => .inr (.inr rfl)
  | x :: xs, y :: ys => by
    rw [cmpL]
    split
    · exact .inl rfl
    · split
      · exact .inr (.inr rfl)
      · exact cmp_three xs ys
theorem cmp_anti : ∀ xs ys : List Int, cmpL ys xs = - cmpL xs ys
  | [], [] => rfl
  | [], _ :: _ => rfl
  | _ :: _, [] => rfl
  | x :: xs, y :: ys => by
    have ih := cmp_anti xs ys
    have e1 : cmpL (y :: ys) (x :: xs) = if y < x then -1 else if x < y then 1 else cmpL ys xs := rfl
    have e2 : cmpL (x :: xs) (y :: ys) = if x < y then -1 else if y < x then 1 else cmpL xs ys := rfl
    rw [e1, e2]
    by_cases a : x < y
    · have b : ¬ y < x := by omega
      simp [a, b]
    · by_cases b : y < x
      · simp [a, b]
      · simp only [a, b, if_false]; exact ih

/-- The bytes of the points of a set. -/
def bytesOf (xs : List Int) : List UInt8 := xs.map (fun x => UInt8.ofNat x.toNat)
theorem b8 {x : Int} (h : 0 ≤ x ∧ x ≤ 31) : (UInt8.ofNat x.toNat).toNat = x.toNat := by
  rw [UInt8.toNat_ofNat']; omega
theorem less_cmp : ∀ xs ys : List Int, (∀ x ∈ xs, 0 ≤ x ∧ x ≤ 31) → (∀ y ∈ ys, 0 ≤ y ∧ y ≤ 31) → Op.bytesLess (bytesOf xs) (bytesOf ys) = decide (cmpL xs ys = -1)
  | [], [], _, _ => rfl
  | [], _ :: _, _, _ => rfl
  | _ :: _, [], _, _ => rfl
  | x :: xs, y :: ys, hx, hy => by
    have h1 := hx x (List.mem_cons_self ..)
    have h2 := hy y (List.mem_cons_self ..)
    have ih := less_cmp xs ys (fun z hz => hx z (List.mem_cons_of_mem _ hz)) (fun z hz => hy z (List.mem_cons_of_mem _ hz))
    have e : Op.bytesLess (bytesOf (x :: xs)) (bytesOf (y :: ys)) = (decide (UInt8.ofNat x.toNat < UInt8.ofNat y.toNat) || (UInt8.ofNat x.toNat == UInt8.ofNat y.toNat && Op.bytesLess (bytesOf xs) (bytesOf ys))) := rfl
    rw [e, ih, cmpL]
    have lt : (UInt8.ofNat x.toNat < UInt8.ofNat y.toNat) ↔ x < y := by
      rw [UInt8.lt_iff_toNat_lt, b8 h1, b8 h2]; omega
    by_cases a : x < y
    · rw [if_pos a, decide_eq_true (lt.2 a)]; rfl
    · rw [if_neg a, decide_eq_false (fun h => a (lt.1 h)), Bool.false_or]
      by_cases b : y < x
      · rw [if_pos b]
        have ne : (UInt8.ofNat x.toNat == UInt8.ofNat y.toNat) = false := by
          rw [beq_eq_false_iff_ne]
          intro h
          have := congrArg UInt8.toNat h
          rw [b8 h1, b8 h2] at this
          omega
        rw [ne, Bool.false_and]; rfl
      · rw [if_neg b]
        have exy : x = y := by omega
        rw [exy]; simp

/-- A block of n points. -/
def isBlk (n : Int) (xs : List Int) : Prop := 0 < xs.length ∧ Rises 0 (n - 1) xs
def desAt (n : Int) (xss : List (List Int)) (i : Nat) : Prop := isBlk n (xss.getD i []) ∧ (0 < i → ¬ 0 < cmpL (xss.getD (i - 1) []) (xss.getD i []))
def Des (n : Int) (xss : List (List Int)) : Prop := 1 ≤ n ∧ n ≤ 32 ∧ xss.length ≤ 128 ∧ ∀ i, i < xss.length → desAt n xss i
noncomputable def desB (n : Int) (xss : List (List Int)) : Bool := @decide (Des n xss) (Classical.propDecidable _)
theorem desB_true {n : Int} {xss : List (List Int)} (h : Des n xss) : desB n xss = true := @decide_eq_true _ (Classical.propDecidable _) h
theorem desB_false {n : Int} {xss : List (List Int)} (h : ¬ Des n xss) : desB n xss = false := @decide_eq_false _ (Classical.propDecidable _) h
theorem of_desB {n : Int} {xss : List (List Int)} (h : desB n xss = true) : Des n xss := @of_decide_eq_true _ (Classical.propDecidable _) h
theorem not_desB {n : Int} {xss : List (List Int)} (h : desB n xss = false) : ¬ Des n xss := fun hd => by rw [desB_true hd] at h; cases h

/-- The blocks as sets: the k-th number has the bits of the k-th block. -/
def Sets (xss : List (List Int)) (ss : List Nat) : Prop := ss.length = xss.length ∧ ∀ i, i < xss.length → ss.getD i 0 < 4294967296 ∧ ∀ k : Nat, (ss.getD i 0).testBit k = decide ((k : Int) ∈ xss.getD i [])
theorem blk_fls {n : Int} {xs : List Int} {s : Nat} (hn : n ≤ 32) (h : Rises 0 (n - 1) xs) (hs : ∀ k : Nat, s.testBit k = decide ((k : Int) ∈ xs)) : fls 32 (fun k => s.testBit k) = xs := by
  refine sorted_ext _ _ (fls_sorted _ _) (rises_sorted h) fun z => ?_
  rw [fls_mem]
  constructor
  · rintro ⟨k, h1, h2, rfl⟩
    rw [hs k] at h2
    exact of_decide_eq_true h2
  · intro hz
    obtain ⟨i, hi, e⟩ := List.mem_iff_getElem.1 hz
    have hb := h i hi
    have e2 : xs.getD i 0 = z := by rw [List.getD_eq_getElem?_getD, List.getElem?_eq_getElem hi]; exact e
    unfold okAt at hb
    rw [e2] at hb
    refine ⟨z.toNat, by omega, ?_, by omega⟩
    rw [hs z.toNat]
    exact decide_eq_true (by rw [show ((z.toNat : Nat) : Int) = z by omega]; exact hz)
theorem fls_range {q : Nat} {P : Nat → Bool} (hq : q ≤ 32) : ∀ x ∈ fls q P, 0 ≤ x ∧ x ≤ 31 := fun x hx => by
  obtain ⟨k, h1, -, rfl⟩ := (fls_mem q P x).1 hx
  omega
/-- The text of a set. -/
def textOf (s : Nat) : List UInt8 := bytesOf (fls 32 (fun k => s.testBit k))
theorem text_less (s t : Nat) : Op.bytesLess (textOf s) (textOf t) = decide (cmpL (fls 32 (fun k => s.testBit k)) (fls 32 (fun k => t.testBit k)) = -1) :=
  less_cmp _ _ (fls_range (Nat.le_refl _)) (fls_range (Nat.le_refl _))
/-- Whether the i-th set comes before the one ahead of it. -/
def wrongAt (ss : List Nat) (i : Nat) : Bool := Op.bytesLess (textOf (ss.getD i 0)) (textOf (ss.getD (i - 1) 0))
theorem wrong_cmp {n : Int} {xss : List (List Int)} {ss : List Nat} {i : Nat} (hn : n ≤ 32) (hS : Sets xss ss) (h0 : 0 < i) (hi : i < xss.length) (h1 : Rises 0 (n - 1) (xss.getD (i - 1) [])) (h2 : Rises 0 (n - 1) (xss.getD i [])) :
    wrongAt ss i = decide (0 < cmpL (xss.getD (i - 1) []) (xss.getD i [])) := by
  unfold wrongAt
  rw [text_less, blk_fls hn h1 (hS.2 (i - 1) (by omega)).2, blk_fls hn h2 (hS.2 i hi).2, cmp_anti]
  rcases cmp_three (xss.getD (i - 1) []) (xss.getD i []) with h | h | h <;> rw [h] <;> decide
end Go.Proofs.YtdhlnagkhkcoiaaDoor
