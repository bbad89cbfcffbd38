/- Identities of quasigroups: the numbers. -/
import Derived.Test.YtigcgpgkpkoodabQg
import Derived.Test.YtigcgpgkpkoodabBit
namespace Go.Proofs.Ytigcgpgkpkoodab
open Go.RowKit
set_option linter.unusedVariables false

def isI (f : Nat → Nat → Int) (x y : Nat) : Bool := f x x == ((x : Nat) : Int)
def isU (f : Nat → Nat → Int) (x y : Nat) : Bool := f x x == f y y
def isC (f : Nat → Nat → Int) (x y : Nat) : Bool := f x y == f y x
def isS (f : Nat → Nat → Int) (x y : Nat) : Bool := f x (f y x).toNat == ((y : Nat) : Int)
/-- Whether a square has an identity. -/
def idB (n : Nat) (f : Nat → Nat → Int) (k : Nat) : Bool :=
  if k = 1 then allP n (isI f) else if k = 2 then allP n (isU f) else if k = 3 then allP n (isC f) else if k = 4 then (fstN n (lftB n f)).isSome
  else if k = 5 then (fstN n (rgtB n f)).isSome else if k = 6 then assB n f else if k = 7 then allP n (isS f) else if k = 8 then allP n (isC f) && allP n (isS f) else false
theorem id1 (n : Nat) (f : Nat → Nat → Int) : idB n f 1 = allP n (isI f) := rfl
theorem id2 (n : Nat) (f : Nat → Nat → Int) : idB n f 2 = allP n (isU f) := rfl
theorem id3 (n : Nat) (f : Nat → Nat → Int) : idB n f 3 = allP n (isC f) := rfl
theorem id4 (n : Nat) (f : Nat → Nat → Int) : idB n f 4 = (fstN n (lftB n f)).isSome := rfl
theorem id5 (n : Nat) (f : Nat → Nat → Int) : idB n f 5 = (fstN n (rgtB n f)).isSome := rfl
theorem id6 (n : Nat) (f : Nat → Nat → Int) : idB n f 6 = assB n f := rfl
theorem id7 (n : Nat) (f : Nat → Nat → Int) : idB n f 7 = allP n (isS f) := rfl
theorem id8 (n : Nat) (f : Nat → Nat → Int) : idB n f 8 = (allP n (isC f) && allP n (isS f)) := rfl
theorem diag1 (n : Nat) (f : Nat → Nat → Int) : allP n (isI f) = allN n (fun x => f x x == ((x : Nat) : Int)) := by
  cases e : allN n (fun x => f x x == ((x : Nat) : Int)) with
  | true => exact allP_true fun x y hx hy => allN_at e x hx
  | false =>
    cases e2 : allP n (isI f) with
    | false => rfl
    | true =>
      have : allN n (fun x => f x x == ((x : Nat) : Int)) = true := allN_true fun x hx => allP_at e2 x x hx hx
      rw [this] at e; cases e
theorem diag2 (n : Nat) (f : Nat → Nat → Int) (h : 1 ≤ n) : allP n (isU f) = allN n (fun x => f x x == f 0 0) := by
  cases e : allN n (fun x => f x x == f 0 0) with
  | true =>
    refine allP_true fun x y hx hy => ?_
    have a := allN_at e x hx
    have b := allN_at e y hy
    simp only [beq_iff_eq] at a b
    unfold isU
    rw [a, b]; simp
  | false =>
    cases e2 : allP n (isU f) with
    | false => rfl
    | true =>
      have : allN n (fun x => f x x == f 0 0) = true := allN_true fun x hx => allP_at e2 x 0 hx (by omega)
      rw [this] at e; cases e
theorem isS_congr {n : Nat} {f g : Nat → Nat → Int} (hf : InSq n f) (h : ∀ x y, x < n → y < n → f x y = g x y) : allP n (isS f) = allP n (isS g) :=
  allP_congr fun x y hx hy => by
    have e := hf y x hy hx
    unfold isS
    rw [← h y x hy hx, ← h x (f y x).toNat hx (by omega)]
theorem id_congr {n : Nat} {f g : Nat → Nat → Int} (hf : InSq n f) (h : ∀ x y, x < n → y < n → f x y = g x y) (k : Nat) : idB n f k = idB n g k := by
  have e1 : allP n (isI f) = allP n (isI g) := allP_congr fun x y hx hy => by unfold isI; rw [h x x hx hx]
  have e2 : allP n (isU f) = allP n (isU g) := allP_congr fun x y hx hy => by unfold isU; rw [h x x hx hx, h y y hy hy]
  have e3 : allP n (isC f) = allP n (isC g) := allP_congr fun x y hx hy => by unfold isC; rw [h x y hx hy, h y x hy hx]
  have e4 : fstN n (lftB n f) = fstN n (lftB n g) := fstN_congr fun e he => lft_congr h he
  have e5 : fstN n (rgtB n f) = fstN n (rgtB n g) := fstN_congr fun e he => rgt_congr h he
  have e6 : assB n f = assB n g := assB_congr hf h
  have e7 := isS_congr hf h
  unfold idB
  rw [e1, e2, e3, e4, e5, e6, e7]
def idsL (n : Nat) (f : Nat → Nat → Int) (k : Nat) : List Int := fls k (idB n f)
theorem ids_one (n : Nat) (f : Nat → Nat → Int) : idsL n f 1 = [] := by
  unfold idsL; rw [fls_succ]; rfl
theorem ids_yes {n : Nat} {f : Nat → Nat → Int} {k : Nat} (h : idB n f k = true) : idsL n f k ++ [(k : Int)] = idsL n f (k + 1) := by
  unfold idsL; rw [fls_succ, if_pos h]
theorem ids_no {n : Nat} {f : Nat → Nat → Int} {k : Nat} (h : idB n f k = false) : idsL n f k = idsL n f (k + 1) := by
  unfold idsL; rw [fls_succ, h]; simp
noncomputable def IdentitiesOf_0 (xss : List (List Int)) : List Int := if sqB xss = true then idsL xss.length (cellF xss) 9 else []
noncomputable def IdentitiesOf_1 (xss : List (List Int)) : Int := if sqB xss = true then 0 else 1
theorem lenIdentitiesOf_0 (xss : List (List Int)) (hx : SmallLL xss) : (IdentitiesOf_0 xss).length ≤ 2000000 := by
  unfold IdentitiesOf_0
  split
  · have := fls_len 9 (idB xss.length (cellF xss)); unfold idsL; omega
  · simp
end Go.Proofs.Ytigcgpgkpkoodab
