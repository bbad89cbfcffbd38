/- Words of a line: by runes, and by bytes. Mathematics alone. -/
import Derived.Test.YtocjdjgfadaljaaIn
import Derived.Lib.FieldsP
import Derived.Lib.TrimUEq
import Derived.Lib.SpaceUEq
namespace Go.Proofs.Ytocjdjgfadaljaa
open Go.RowKit
set_option linter.unusedVariables false

/-- The byte at a place. -/
def bt (s : ByteArray) (i : Nat) : Nat := (s.get! i).toNat
theorem bt_get (s : ByteArray) (i : Nat) (h : i < s.size) : bt s i = s[i].toNat := by
  unfold bt
  obtain ⟨d⟩ := s
  simp only [ByteArray.get!]
  rw [getElem!_pos d i h]
  rfl
/-- Words, byte by byte: the spans behind i bytes, and where a word has begun. -/
def fsc (s : ByteArray) : Nat → List (Nat × Nat) × Option Nat
  | 0 => ([], none)
  | i + 1 => if bt s i = 32 then (match (fsc s i).2 with | some a => ((fsc s i).1 ++ [(a, i)], none) | none => ((fsc s i).1, none)) else ((fsc s i).1, some ((fsc s i).2.getD i))
theorem fsc_skip (s : ByteArray) (i : Nat) : ∀ d, (∀ j, j < d → bt s (i + j) ≠ 32) → 1 ≤ d → fsc s (i + d) = ((fsc s i).1, some ((fsc s i).2.getD i))
  | 0, _, h => by omega
  | 1, h, _ => by
    show fsc s (i + 1) = _
    rw [fsc, if_neg (show ¬ bt s i = 32 from h 0 (by omega))]
  | d + 2, h, _ => by
    have ih := fsc_skip s i (d + 1) (fun j hj => h j (by omega)) (by omega)
    rw [show i + (d + 2) = (i + (d + 1)) + 1 by omega, fsc, if_neg (h (d + 1) (by omega)), ih]
    rfl
/-- The rune at a place: a blank is one byte; any other rune holds no byte 32. -/
theorem rune_step (s : ByteArray) (pos : Nat) (h : pos < s.size) :
    (((Go.Utf8.decode s pos).1 = 32 ∧ (Go.Utf8.decode s pos).2 = 1 ∧ bt s pos = 32) ∨
    ((Go.Utf8.decode s pos).1 ≠ 32 ∧ 1 ≤ (Go.Utf8.decode s pos).2 ∧ pos + (Go.Utf8.decode s pos).2 ≤ s.size ∧ ∀ j, j < (Go.Utf8.decode s pos).2 → bt s (pos + j) ≠ 32)) := by
  rw [Lib.decode_at]
  have c := Lib.decodeN_conts (s.size - pos) (s.get! pos).toNat (s.get! (pos + 1)).toNat (s.get! (pos + 2)).toNat (s.get! (pos + 3)).toNat
  have g := Lib.decodeN_ge1 (s.size - pos) (s.get! pos).toNat (s.get! (pos + 1)).toNat (s.get! (pos + 2)).toNat (s.get! (pos + 3)).toNat
  have k := Lib.decodeN_cases (s.size - pos) (s.get! pos).toNat (s.get! (pos + 1)).toNat (s.get! (pos + 2)).toNat (s.get! (pos + 3)).toNat
  obtain ⟨r, hr⟩ : ∃ r, Lib.decodeN (s.size - pos) (s.get! pos).toNat (s.get! (pos + 1)).toNat (s.get! (pos + 2)).toNat (s.get! (pos + 3)).toNat = r := ⟨_, rfl⟩
  have asc := Lib.decodeN_ascii (s.size - pos) (s.get! pos).toNat (s.get! (pos + 1)).toNat (s.get! (pos + 2)).toNat (s.get! (pos + 3)).toNat
  rw [hr] at c g k asc ⊢
  obtain ⟨c1, c2, c3, c4⟩ := c
  have f0 : bt s pos = (s.get! pos).toNat := rfl
  have f1 : bt s (pos + 1) = (s.get! (pos + 1)).toNat := rfl
  have f2 : bt s (pos + 2) = (s.get! (pos + 2)).toNat := rfl
  have f3 : bt s (pos + 3) = (s.get! (pos + 3)).toNat := rfl
  by_cases a : (s.get! pos).toNat < 128
  · have e := asc a
    by_cases b : (s.get! pos).toNat = 32
    · exact .inl ⟨by rw [e, b], by rw [e], by rw [f0, b]⟩
    · refine .inr ⟨by rw [e]; exact b, by rw [e]; exact Nat.le_refl _, by rw [e]; show pos + 1 ≤ s.size; omega, fun j hj => ?_⟩
      rw [e] at hj
      have : j = 0 := by have : j < 1 := hj; omega
      subst this
      rw [Nat.add_zero, f0]; exact b
  · refine .inr ⟨?_, g, by omega, fun j hj => ?_⟩
    · rcases k with ⟨x, _⟩ | ⟨_, _, _, x, e⟩ | ⟨_, _, _, _, x, e⟩ | ⟨x, _⟩ | e
      · omega
      · rw [e]; show _ ≠ 32; omega
      · rw [e]; show _ ≠ 32; omega
      · omega
      · rw [e]; show 65533 ≠ 32; omega
    · have hj4 : j = 0 ∨ j = 1 ∨ j = 2 ∨ j = 3 := by omega
      rcases hj4 with rfl | rfl | rfl | rfl
      · rw [Nat.add_zero, f0]; omega
      · rw [f1]; have := (c1 (by omega)).1; omega
      · rw [f2]; have := (c2 (by omega)).1; omega
      · rw [f3]; have := (c3 (by omega)).1; omega
theorem spans_fsc (s : ByteArray) (p : Nat → Bool) (hp : ∀ r, p r = decide (r = 32)) : ∀ f pos, pos ≤ s.size → s.size ≤ pos + f → Lib.spansFromP p s f pos (fsc s pos).2 (fsc s pos).1 = fsc s s.size
  | 0, pos, h1, h2 => by
    obtain rfl : pos = s.size := by omega
    rfl
  | f + 1, pos, h1, h2 => by
    by_cases c : pos < s.size
    · obtain ⟨st, hst⟩ : ∃ st, (fsc s pos).2 = st := ⟨_, rfl⟩
      obtain ⟨acc, hacc⟩ : ∃ acc, (fsc s pos).1 = acc := ⟨_, rfl⟩
      rw [hst, hacc]
      rcases rune_step s pos c with ⟨a1, a2, a3⟩ | ⟨a1, a2, a3, a4⟩
      · have ih := spans_fsc s p hp f (pos + 1) (by omega) (by omega)
        rw [fsc, if_pos a3, hst, hacc] at ih
        have e : p (Go.Utf8.decode s pos).1 = true := by rw [hp, a1]; rfl
        cases st with
        | none => simp only [Lib.spansFromP, if_pos c, e, if_true, a2]; exact ih
        | some a => simp only [Lib.spansFromP, if_pos c, e, if_true, a2]; exact ih
      · have ih := spans_fsc s p hp f (pos + (Go.Utf8.decode s pos).2) a3 (by omega)
        rw [fsc_skip s pos _ a4 a2, hst, hacc] at ih
        have e : p (Go.Utf8.decode s pos).1 = false := by rw [hp]; exact decide_eq_false a1
        cases st with
        | none => simp only [Lib.spansFromP, if_pos c, e, Bool.false_eq_true, if_false]; exact ih
        | some a => simp only [Lib.spansFromP, if_pos c, e, Bool.false_eq_true, if_false]; exact ih
    · obtain rfl : pos = s.size := by omega
      rw [Lib.spansFromP_end _ _ _ _ _ _ c]
/-- The words of a line. -/
def wordsOf (s : ByteArray) : List ByteArray := (Lib.closeSpans s (fsc s s.size)).map fun x => s.extract x.1 x.2
theorem words_go (s : ByteArray) (p : Nat → Bool) (hp : ∀ r, p r = decide (r = 32)) : Lib.goFieldsP p s = wordsOf s := by
  unfold Lib.goFieldsP Lib.spansOfP wordsOf
  have := spans_fsc s p hp s.size 0 (Nat.zero_le _) (by omega)
  rw [show (fsc s 0).2 = none from rfl, show (fsc s 0).1 = [] from rfl] at this
  rw [this]
/-- The parts between blanks behind i bytes, and where the last part begins. -/
def psc (s : ByteArray) : Nat → List (Nat × Nat) × Nat
  | 0 => ([], 0)
  | i + 1 => if bt s i = 32 then ((psc s i).1 ++ [((psc s i).2, i)], i + 1) else psc s i
theorem psc_fsc (s : ByteArray) : ∀ i, (psc s i).2 ≤ i ∧ (psc s i).1.filter (fun x => decide (x.1 < x.2)) = (fsc s i).1 ∧ (fsc s i).2 = (if (psc s i).2 < i then some (psc s i).2 else none) ∧ (psc s i).1.length ≤ i ∧ (∀ x ∈ (psc s i).1, x.1 ≤ x.2 ∧ x.2 ≤ i)
  | 0 => ⟨Nat.le_refl _, rfl, rfl, Nat.le_refl _, fun x hx => by simp [psc] at hx⟩
  | i + 1 => by
    obtain ⟨a, b, c, d, e⟩ := psc_fsc s i
    rw [psc, fsc]
    by_cases h : bt s i = 32
    · rw [if_pos h, if_pos h, c]
      refine ⟨Nat.le_refl _, ?_, ?_, by simp; omega, fun x hx => ?_⟩
      · rw [List.filter_append, b]
        by_cases l : (psc s i).2 < i
        · rw [if_pos l]; simp [l]
        · rw [if_neg l]; simp [l]
      · rw [if_neg (Nat.lt_irrefl _)]
        by_cases l : (psc s i).2 < i
        · rw [if_pos l]
        · rw [if_neg l]
      · rcases List.mem_append.1 hx with hx | hx
        · have := e x hx; omega
        · simp at hx; subst hx; exact ⟨a, by omega⟩
    · rw [if_neg h, if_neg h, c]
      refine ⟨by omega, b, ?_, by omega, fun x hx => by have := e x hx; omega⟩
      rw [if_pos (show (psc s i).2 < i + 1 by omega)]
      by_cases l : (psc s i).2 < i
      · rw [if_pos l]; rfl
      · rw [if_neg l, show (psc s i).2 = i by omega]; rfl
/-- The parts of a line. -/
def partsOf (s : ByteArray) : List ByteArray := ((psc s s.size).1 ++ [((psc s s.size).2, s.size)]).map fun x => s.extract x.1 x.2
theorem extract_empty (s : ByteArray) (a b : Nat) (hb : b ≤ s.size) : ((s.extract a b).toList == ByteArray.empty.toList) = !decide (a < b) := by
  have e : ByteArray.empty.toList = [] := ByteArray.toList_empty
  have hs : (s.extract a b).toList.length = b - a := by
    rw [ByteArray.toList_eq, Lib.extract_data, List.length_take, List.length_drop]
    have : s.data.toList.length = s.size := rfl
    omega
  rw [e]
  by_cases c : a < b
  · rw [decide_eq_true c]
    cases h : (s.extract a b).toList with
    | nil => rw [h] at hs; simp at hs; omega
    | cons _ _ => rfl
  · rw [decide_eq_false c]
    have : (s.extract a b).toList = [] := List.eq_nil_of_length_eq_zero (by omega)
    rw [this]; rfl
theorem words_parts (s : ByteArray) : (partsOf s).filter (fun x => !(x.toList == ByteArray.empty.toList)) = wordsOf s := by
  obtain ⟨a, b, c, d, e⟩ := psc_fsc s s.size
  unfold partsOf wordsOf
  rw [List.filter_map]
  congr 1
  have f : ((psc s s.size).1 ++ [((psc s s.size).2, s.size)]).filter ((fun x => !(x.toList == ByteArray.empty.toList)) ∘ fun x : Nat × Nat => s.extract x.1 x.2) = ((psc s s.size).1 ++ [((psc s s.size).2, s.size)]).filter (fun x => decide (x.1 < x.2)) := by
    refine List.filter_congr fun x hx => ?_
    have hx2 : x.2 ≤ s.size := by
      rcases List.mem_append.1 hx with hx | hx
      · exact (e x hx).2
      · simp at hx; subst hx; exact Nat.le_refl _
    show (!((s.extract x.1 x.2).toList == ByteArray.empty.toList)) = _
    rw [extract_empty s _ _ hx2, Bool.not_not]
  rw [f, List.filter_append, b]
  unfold Lib.closeSpans
  rw [c]
  by_cases l : (psc s s.size).2 < s.size
  · rw [if_pos l]; simp [l]
  · rw [if_neg l]; simp [l]
theorem parts_len (s : ByteArray) : (partsOf s).length ≤ s.size + 1 := by
  have := (psc_fsc s s.size).2.2.2.1
  unfold partsOf
  simp; omega
theorem words_len (s : ByteArray) : (wordsOf s).length ≤ s.size + 1 := by
  rw [← words_parts]
  exact Nat.le_trans (List.length_filter_le _ _) (parts_len s)
end Go.Proofs.Ytocjdjgfadaljaa
