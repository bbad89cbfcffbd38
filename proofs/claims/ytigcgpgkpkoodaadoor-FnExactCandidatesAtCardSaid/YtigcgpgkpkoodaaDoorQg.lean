/- Quasigroups: the numbers. -/
import Derived.Test.YtigcgpgkpkoodaaDoorRds
namespace Go.Proofs.YtigcgpgkpkoodaaDoor
open Go.RowKit
set_option linter.unusedVariables false

/-- All numbers below n have it; all pairs. -/
def allN : Nat → (Nat → Bool) → Bool
  | 0, _ => true
  | n + 1, P => allN n P && P n
theorem allN_true : ∀ {n : Nat} {P : Nat → Bool}, (∀ i, i < n → P i = true) → allN n P = true
  | 0, _, _ => rfl
  | n + 1, P, h => by rw [allN, allN_true (fun i hi => h i (by omega)), h n (by omega)]; rfl
theorem allN_at : ∀ {n : Nat} {P : Nat → Bool}, allN n P = true → ∀ i, i < n → P i = true
  | 0, _, _, i, hi => by omega
  | n + 1, P, h, i, hi => by
    rw [allN, Bool.and_eq_true] at h
    by_cases e : i = n
    · rw [e]; exact h.2
    · exact allN_at h.1 i (by omega)
theorem allN_false {n : Nat} {P : Nat → Bool} {i : Nat} (hi : i < n) (h : P i = false) : allN n P = false := by
  cases e : allN n P with
  | false => rfl
  | true => rw [allN_at e i hi] at h; cases h
theorem allN_congr {n : Nat} {P Q : Nat → Bool} (h : ∀ i, i < n → P i = Q i) : allN n P = allN n Q := by
  cases e : allN n Q with
  | true => exact allN_true fun i hi => by rw [h i hi]; exact allN_at e i hi
  | false =>
    cases e2 : allN n P with
    | false => rfl
    | true => rw [← e]; exact (allN_true fun i hi => by rw [← h i hi]; exact allN_at e2 i hi).symm
def allP (n : Nat) (P : Nat → Nat → Bool) : Bool := allN n fun x => allN n (P x)
theorem allP_true {n : Nat} {P : Nat → Nat → Bool} (h : ∀ x y, x < n → y < n → P x y = true) : allP n P = true := allN_true fun x hx => allN_true fun y hy => h x y hx hy
theorem allP_at {n : Nat} {P : Nat → Nat → Bool} (h : allP n P = true) (x y : Nat) (hx : x < n) (hy : y < n) : P x y = true := allN_at (allN_at h x hx) y hy
theorem allP_false {n : Nat} {P : Nat → Nat → Bool} {x y : Nat} (hx : x < n) (hy : y < n) (h : P x y = false) : allP n P = false := allN_false hx (allN_false hy h)
theorem allP_congr {n : Nat} {P Q : Nat → Nat → Bool} (h : ∀ x y, x < n → y < n → P x y = Q x y) : allP n P = allP n Q := allN_congr fun x hx => allN_congr fun y hy => h x y hx hy
/-- The first number below n that has it. -/
def fstN : Nat → (Nat → Bool) → Option Nat
  | 0, _ => none
  | n + 1, P => match fstN n P with
    | some e => some e
    | none => if P n = true then some n else none
theorem fstN_none : ∀ {n : Nat} {P : Nat → Bool}, (∀ k, k < n → P k = false) → fstN n P = none
  | 0, _, _ => rfl
  | n + 1, P, h => by rw [fstN, fstN_none (fun k hk => h k (by omega))]; simp [h n (by omega)]
theorem fstN_some : ∀ {n : Nat} {P : Nat → Bool} {e : Nat}, e < n → P e = true → (∀ k, k < e → P k = false) → fstN n P = some e
  | 0, _, e, h, _, _ => by omega
  | n + 1, P, e, h, h1, h2 => by
    rw [fstN]
    by_cases c : e < n
    · rw [fstN_some c h1 h2]
    · obtain rfl : e = n := by omega
      rw [fstN_none h2]; simp [h1]
theorem fstN_of : ∀ (n : Nat) (P : Nat → Bool), (fstN n P = none ∧ ∀ k, k < n → P k = false) ∨ ∃ e, e < n ∧ P e = true ∧ (∀ k, k < e → P k = false) ∧ fstN n P = some e
  | 0, P => .inl ⟨rfl, fun k hk => by omega⟩
  | n + 1, P => by
    rcases fstN_of n P with ⟨h1, h2⟩ | ⟨e, h1, h2, h3, h4⟩
    · cases c : P n with
      | true => exact .inr ⟨n, by omega, c, h2, fstN_some (by omega) c h2⟩
      | false =>
        have : ∀ k, k < n + 1 → P k = false := fun k hk => by
          by_cases e : k = n
          · rw [e]; exact c
          · exact h2 k (by omega)
        exact .inl ⟨fstN_none this, this⟩
    · exact .inr ⟨e, by omega, h2, h3, fstN_some (by omega) h2 h3⟩
theorem fstN_congr {n : Nat} {P Q : Nat → Bool} (h : ∀ i, i < n → P i = Q i) : fstN n P = fstN n Q := by
  rcases fstN_of n Q with ⟨h1, h2⟩ | ⟨e, h1, h2, h3, h4⟩
  · rw [h1]; exact fstN_none fun k hk => by rw [h k hk]; exact h2 k hk
  · rw [h4]; exact fstN_some h1 (by rw [h e h1]; exact h2) fun k hk => by rw [h k (by omega)]; exact h3 k hk
def optI : Option Nat → Int
  | none => 0
  | some e => e
/-- Left and right units. -/
def lftB (n : Nat) (f : Nat → Nat → Int) (e : Nat) : Bool := allN n fun x => f e x == ((x : Nat) : Int)
def rgtB (n : Nat) (f : Nat → Nat → Int) (e : Nat) : Bool := allN n fun x => f x e == ((x : Nat) : Int)
theorem lft_transposed {n : Nat} {f : Nat → Nat → Int} {e : Nat} (he : e < n) : lftB n (sqF n (fun x y => f y x)) e = rgtB n f e :=
  allN_congr fun x hx => by rw [sqF_in _ he hx]
theorem lft_congr {n : Nat} {f g : Nat → Nat → Int} (h : ∀ x y, x < n → y < n → f x y = g x y) {e : Nat} (he : e < n) : lftB n f e = lftB n g e := allN_congr fun x hx => by rw [h e x he hx]
theorem rgt_congr {n : Nat} {f g : Nat → Nat → Int} (h : ∀ x y, x < n → y < n → f x y = g x y) {e : Nat} (he : e < n) : rgtB n f e = rgtB n g e := allN_congr fun x hx => by rw [h x e hx he]
/-- Where there is a right unit, a left unit is a unit. -/
theorem unit_eq {n : Nat} {f : Nat → Nat → Int} (h : (fstN n (rgtB n f)).isSome = true) : fstN n (lftB n f) = fstN n (fun e => lftB n f e && rgtB n f e) := by
  rcases fstN_of n (rgtB n f) with ⟨h1, h2⟩ | ⟨r, h1, h2, h3, h4⟩
  · rw [h1] at h; cases h
  · refine fstN_congr fun e he => ?_
    cases c : lftB n f e with
    | false => rfl
    | true =>
      have a := allN_at c r h1
      have b := allN_at h2 e he
      simp only [beq_iff_eq] at a b
      have : r = e := by omega
      subst this
      rw [h2]; rfl
theorem unit_no {n : Nat} {f : Nat → Nat → Int} (h : (fstN n (rgtB n f)).isSome = false) : fstN n (fun e => lftB n f e && rgtB n f e) = none := by
  rcases fstN_of n (rgtB n f) with ⟨h1, h2⟩ | ⟨r, h1, h2, h3, h4⟩
  · exact fstN_none fun k hk => by rw [h2 k hk, Bool.and_false]
  · rw [h4] at h; cases h
/-- Three numbers that associate. -/
def as3 (f : Nat → Nat → Int) (x y z : Nat) : Bool := f (f x y).toNat z == f x (f y z).toNat
def assB (n : Nat) (f : Nat → Nat → Int) : Bool := allP n fun x y => allN n (as3 f x y)
theorem assB_false {n : Nat} {f : Nat → Nat → Int} {x y z : Nat} (hx : x < n) (hy : y < n) (hz : z < n) (h : as3 f x y z = false) : assB n f = false := allP_false hx hy (allN_false hz h)
theorem assB_true {n : Nat} {f : Nat → Nat → Int} (h : ∀ x y z, x < n → y < n → z < n → as3 f x y z = true) : assB n f = true := allP_true fun x y hx hy => allN_true fun z hz => h x y z hx hy hz
theorem assB_congr {n : Nat} {f g : Nat → Nat → Int} (hf : InSq n f) (h : ∀ x y, x < n → y < n → f x y = g x y) : assB n f = assB n g :=
  allP_congr fun x y hx hy => allN_congr fun z hz => by
    have e1 := hf x y hx hy
    have e2 := hf y z hy hz
    unfold as3
    rw [← h x y hx hy, ← h y z hy hz, h (f x y).toNat z (by omega) hz, h x (f y z).toNat hx (by omega)]
theorem redF_in {n : Nat} {f : Nat → Nat → Int} (h1 : 1 ≤ n) (h : InSq n f) : InSq n (redF n f) := fun a b _ _ =>
  movSt_range (P := fun z => 0 ≤ z ∧ z < n) (by omega) n (fun a b ha hb => ordF_in h1 h a b) a b
end Go.Proofs.YtigcgpgkpkoodaaDoor
