/- The reduced form of a square: the numbers; the program's closures and reduced. -/
import Derived.Test.YtigcgpgkpkoodaaDoorIso
namespace Go.Proofs.YtigcgpgkpkoodaaDoor
open Go.RowKit Go.Shelf
set_option linter.unusedVariables false

def redMv1 (f : Nat → Nat → Int) : Nat → Nat → Nat × Nat × Int := fun x y => (x, (f 0 y).toNat, f x y)
def redMv2 (f : Nat → Nat → Int) : Nat → Nat → Nat × Nat × Int := fun x y => ((f x 0).toNat, y, f x y)
def ordF (n : Nat) (f : Nat → Nat → Int) : Nat → Nat → Int := movSt n (redMv1 f) n
def redF (n : Nat) (f : Nat → Nat → Int) : Nat → Nat → Int := movSt n (redMv2 (ordF n f)) n
theorem rowSt_congr {mv mv' : Nat → Nat → Nat × Nat × Int} {x : Nat} {f : Nat → Nat → Int} : ∀ y, (∀ b, b < y → mv x b = mv' x b) → rowSt mv x f y = rowSt mv' x f y
  | 0, _ => rfl
  | y + 1, h => by rw [rowSt, rowSt, rowSt_congr y (fun b hb => h b (by omega)), h y (by omega)]
theorem movSt_congr {n : Nat} {mv mv' : Nat → Nat → Nat × Nat × Int} : ∀ x, (∀ a b, a < x → b < n → mv a b = mv' a b) → movSt n mv x = movSt n mv' x
  | 0, _ => rfl
  | x + 1, h => by rw [movSt, movSt, movSt_congr x (fun a b ha hb => h a b (by omega) hb), rowSt_congr n (fun b hb => h x b (by omega) hb)]
theorem rowSt_range {P : Int → Prop} {mv : Nat → Nat → Nat × Nat × Int} {x : Nat} {f : Nat → Nat → Int} (hf : ∀ a b, P (f a b)) : ∀ y, (∀ b, b < y → P (mv x b).2.2) → ∀ a b, P (rowSt mv x f y a b)
  | 0, _ => hf
  | y + 1, h => fun a b => by
    rw [rowSt]
    unfold upd2
    split
    · exact h y (by omega)
    · exact rowSt_range hf y (fun b hb => h b (by omega)) a b
theorem movSt_range {P : Int → Prop} (h0 : P 0) {n : Nat} {mv : Nat → Nat → Nat × Nat × Int} : ∀ x, (∀ a b, a < x → b < n → P (mv a b).2.2) → ∀ a b, P (movSt n mv x a b)
  | 0, _ => fun _ _ => h0
  | x + 1, h => rowSt_range (movSt_range h0 x (fun a b ha hb => h a b (by omega) hb)) n (fun b hb => h x b (by omega) hb)
def InSq (n : Nat) (f : Nat → Nat → Int) : Prop := ∀ x y, x < n → y < n → 0 ≤ f x y ∧ f x y < n
theorem ordF_in {n : Nat} {f : Nat → Nat → Int} (h1 : 1 ≤ n) (h : InSq n f) : ∀ a b, 0 ≤ ordF n f a b ∧ ordF n f a b < n :=
  movSt_range (P := fun z => 0 ≤ z ∧ z < n) (by omega) n (fun a b ha hb => h a b ha hb)
theorem ordF_congr {n : Nat} {f g : Nat → Nat → Int} (h : ∀ x y, x < n → y < n → f x y = g x y) : ordF n f = ordF n g :=
  movSt_congr n (fun a b ha hb => by unfold redMv1; rw [h 0 b (by omega) hb, h a b ha hb])
theorem redF_congr {n : Nat} {f g : Nat → Nat → Int} (h : ∀ x y, x < n → y < n → f x y = g x y) : redF n f = redF n g := by unfold redF; rw [ordF_congr h]

end Go.Proofs.YtigcgpgkpkoodaaDoor
