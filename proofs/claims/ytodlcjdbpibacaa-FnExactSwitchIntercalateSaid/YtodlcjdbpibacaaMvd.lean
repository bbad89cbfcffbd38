/- The program's moved: the cells of a square moved one by one. -/
import Derived.Test.YtodlcjdbpibacaaFil
import Derived.WalkMore
import Derived.Deep.LoopGhost
import Derived.StillTailTactics
import Derived.Test.YtodlcjdbpibacaaBit
namespace Go.Proofs.Ytodlcjdbpibacaa
open Go.RowKit Go.Shelf
set_option linter.unusedVariables false

/-- A cell as a value. -/
def cellV (x y : Nat) (z : Int) : Value := .agg #[.int .i64 x, .int .i64 y, .int .i64 z]
/-- What a function on cells answers, reading what lies below B. -/
def MoveOk (w : World) (B : Nat) (s : Value) (n : Nat) (f : Nat → Nat → Int) (mv : Nat → Nat → Nat × Nat × Int) : Prop :=
  ∃ fn fs cs, s = .func (.func fn) fs cs ∧ (∀ args W, (callFunc fn args).run Try.prog W = .ok (.enter fn args) W) ∧ ∀ (W : World) (x y : Nat), Below B w W → x < n → y < n → Calls Try.prog fn (fs.push (.agg #[.int .i64 x, .int .i64 y, .int .i64 (f x y)]) ++ cs) W fun e W' => e = .returned (.agg #[.int .i64 (mv x y).1, .int .i64 (mv x y).2.1, .int .i64 (mv x y).2.2]) ∧ Below W.heap.size W W'

section
open Go.RowKit Go.Shelf
set_option linter.unusedVariables false

/-- Where the cell in row x and column y goes. -/
def isoMv (xss : List (List Int)) (rs cs ss : List Int) : Nat → Nat → Nat × Nat × Int := fun x y => ((rs.getD x 0).toNat, (cs.getD y 0).toNat, ss.getD (cellF xss x y).toNat 0)
def isoL (xss : List (List Int)) (rs cs ss : List Int) : List (List Int) := gridL xss.length xss.length (movSt xss.length (isoMv xss rs cs ss) xss.length)
noncomputable def isoOk (n : Nat) (rs cs ss : List Int) : Bool := hpB n [rs, cs, ss]
noncomputable def Isotope_0 (xss : List (List Int)) (rs cs ss : List Int) : List (List Int) := if sqB xss = true ∧ isoOk xss.length rs cs ss = true then isoL xss rs cs ss else []
noncomputable def Isotope_1 (xss : List (List Int)) (rs cs ss : List Int) : Int := if sqB xss = true then if isoOk xss.length rs cs ss = true then 0 else 2 else 1
theorem Iso_bad {xss : List (List Int)} {rs cs ss : List Int} (h : sqB xss = false) : Isotope_0 xss rs cs ss = [] ∧ Isotope_1 xss rs cs ss = 1 := by unfold Isotope_0 Isotope_1; rw [h]; exact ⟨rfl, rfl⟩
theorem Iso_no {xss : List (List Int)} {rs cs ss : List Int} (h : sqB xss = true) (k : isoOk xss.length rs cs ss = false) : Isotope_0 xss rs cs ss = [] ∧ Isotope_1 xss rs cs ss = 2 := by unfold Isotope_0 Isotope_1; rw [h, k]; exact ⟨rfl, rfl⟩
theorem Iso_ok {xss : List (List Int)} {rs cs ss : List Int} (h : sqB xss = true) (k : isoOk xss.length rs cs ss = true) : Isotope_0 xss rs cs ss = isoL xss rs cs ss ∧ Isotope_1 xss rs cs ss = 0 := by unfold Isotope_0 Isotope_1; rw [h, k]; exact ⟨rfl, rfl⟩
theorem lenIsotope_0 (xss : List (List Int)) (rs cs ss : List Int) (hx : SmallLL xss) (h1 : SmallL rs) (h2 : SmallL cs) (h3 : SmallL ss) : (Isotope_0 xss rs cs ss).length + tot (Isotope_0 xss rs cs ss) ≤ 2000000 := by
  cases e : sqB xss with
  | false => rw [(Iso_bad e).1]; decide
  | true =>
    cases k : isoOk xss.length rs cs ss with
    | false => rw [(Iso_no e k).1]; decide
    | true =>
      have := (of_sqB e).hi
      rw [(Iso_ok e k).1]
      unfold isoL
      rw [gridL_length, tot_gridL]
      have : xss.length * xss.length ≤ 10 * 10 := Nat.mul_le_mul this this
      omega
/-- A permutation of a degree: its members. -/
theorem pm_mem {n : Nat} {rs : List Int} (h1 : rs.length = n) (h2 : pmB rs = true) {i : Nat} (hi : i < n) : 0 ≤ rs.getD i 0 ∧ rs.getD i 0 < n := by
  have := (of_pmB h2).2 i (by omega)
  unfold okPm at this
  omega
theorem isoOk_parts {n : Nat} {rs cs ss : List Int} (h : isoOk n rs cs ss = true) : (rs.length = n ∧ pmB rs = true) ∧ (cs.length = n ∧ pmB cs = true) ∧ (ss.length = n ∧ pmB ss = true) :=
  ⟨of_hpB h 0 (by simp), of_hpB h 1 (by simp), of_hpB h 2 (by simp)⟩
theorem isoMv_lt {xss : List (List Int)} {rs cs ss : List Int} (h : isoOk xss.length rs cs ss = true) {x y : Nat} (hx : x < xss.length) (hy : y < xss.length) : (isoMv xss rs cs ss x y).1 < xss.length ∧ (isoMv xss rs cs ss x y).2.1 < xss.length := by
  obtain ⟨⟨a1, a2⟩, ⟨b1, b2⟩, _⟩ := isoOk_parts h
  have := pm_mem a1 a2 hx
  have := pm_mem b1 b2 hy
  unfold isoMv
  simp only
  omega

end

/-! The reduced form of a square: the numbers; the program's closures and reduced. -/
section
open Go.RowKit Go.Shelf
set_option linter.unusedVariables false

def redMv1 (f : Nat → Nat → Int) : Nat → Nat → Nat × Nat × Int := fun x y => (x, (f 0 y).toNat, f x y)
def redMv2 (f : Nat → Nat → Int) : Nat → Nat → Nat × Nat × Int := fun x y => ((f x 0).toNat, y, f x y)
def ordF (n : Nat) (f : Nat → Nat → Int) : Nat → Nat → Int := movSt n (redMv1 f) n
def redF (n : Nat) (f : Nat → Nat → Int) : Nat → Nat → Int := movSt n (redMv2 (ordF n f)) n
theorem rowSt_congr {mv mv' : Nat → Nat → Nat × Nat × Int} {x : Nat} {f : Nat → Nat → Int} : ∀ y, (∀ b, b < y → mv x b = mv' x b) → rowSt mv x f y = rowSt mv' x f y
  | 0, _ => rfl
  | y + 1, h => by rw [rowSt, rowSt, rowSt_congr y (fun b hb => h b (by omega)), h y (by omega)]
theorem movSt_congr {n : Nat} {mv mv' : Nat → Nat → Nat × Nat × Int} : ∀ x, (∀ a b, a < x → b < n → mv a b = mv' a b) → movSt n mv x = movSt n mv' x
  | 0, _ => rfl
  | x + 1, h => by rw [movSt, movSt, movSt_congr x (fun a b ha hb => h a b (by omega) hb), rowSt_congr n (fun b hb => h x b (by omega) hb)]
theorem rowSt_range {P : Int → Prop} {mv : Nat → Nat → Nat × Nat × Int} {x : Nat} {f : Nat → Nat → Int} (hf : ∀ a b, P (f a b)) : ∀ y, (∀ b, b < y → P (mv x b).2.2) → ∀ a b, P (rowSt mv x f y a b)
  | 0, _ => hf
  | y + 1, h => fun a b => by
    rw [rowSt]
    unfold upd2
    split
    · exact h y (by omega)
    · exact rowSt_range hf y (fun b hb => h b (by omega)) a b
theorem movSt_range {P : Int → Prop} (h0 : P 0) {n : Nat} {mv : Nat → Nat → Nat × Nat × Int} : ∀ x, (∀ a b, a < x → b < n → P (mv a b).2.2) → ∀ a b, P (movSt n mv x a b)
  | 0, _ => fun _ _ => h0
  | x + 1, h => rowSt_range (movSt_range h0 x (fun a b ha hb => h a b (by omega) hb)) n (fun b hb => h x b (by omega) hb)
def InSq (n : Nat) (f : Nat → Nat → Int) : Prop := ∀ x y, x < n → y < n → 0 ≤ f x y ∧ f x y < n
theorem ordF_in {n : Nat} {f : Nat → Nat → Int} (h1 : 1 ≤ n) (h : InSq n f) : ∀ a b, 0 ≤ ordF n f a b ∧ ordF n f a b < n :=
  movSt_range (P := fun z => 0 ≤ z ∧ z < n) (by omega) n (fun a b ha hb => h a b ha hb)
theorem ordF_congr {n : Nat} {f g : Nat → Nat → Int} (h : ∀ x y, x < n → y < n → f x y = g x y) : ordF n f = ordF n g :=
  movSt_congr n (fun a b ha hb => by unfold redMv1; rw [h 0 b (by omega) hb, h a b ha hb])
theorem redF_congr {n : Nat} {f g : Nat → Nat → Int} (h : ∀ x y, x < n → y < n → f x y = g x y) : redF n f = redF n g := by unfold redF; rw [ordF_congr h]

end

/-! Isotope: the model. -/
section
open Go.RowKit
set_option linter.unusedVariables false

theorem IntsAt.look {w : World} {v : Value} {xs : List Int} {n : Nat} (h : IntsAt w v xs) (hn : xs.length = n) : ∃ a c, v = .slice a n c ∧ ∀ W, Below w.heap.size w W → ∀ i, i < n → ∃ g off, a = some ⟨g, off, none⟩ ∧ W.cell? ⟨g, off + i, none⟩ = some (.int .i64 (xs.getD i 0)) := by
  obtain ⟨a, c, e, k⟩ := part2 h
  rw [hn] at e k
  refine ⟨a, c, e, fun W hb i hi => ?_⟩
  obtain ⟨g, off, h1, h2, h3⟩ := k i hi
  exact ⟨g, off, h1, (hb.cell (p := ⟨g, off + i, none⟩) h2).trans h3⟩
theorem RowsAt.look {w : World} {v : Value} {xss : List (List Int)} {n : Nat} (h : RowsAt w v xss) (hn : xss.length = n) (hr : ∀ x, x < n → (xss.getD x []).length = n) :
    ∃ a c, v = .slice a n c ∧ ∀ W, Below w.heap.size w W → ∀ x y, x < n → y < n → ∃ g off g2 off2 c2, a = some ⟨g, off, none⟩ ∧ W.cell? ⟨g, off + x, none⟩ = some (.slice (some ⟨g2, off2, none⟩) n c2) ∧ W.cell? ⟨g2, off2 + y, none⟩ = some (.int .i64 (cellF xss x y)) := by
  obtain ⟨a, c, e, -, hc⟩ := h.cellsOf
  rw [hn] at e
  refine ⟨a, c, e, fun W hb x y hx hy => ?_⟩
  obtain ⟨g, off, u, h1, h2, h3, h4⟩ := hc x (by omega)
  obtain ⟨a2, c2, e2, _, _, h5⟩ := h4.part
  have el := hr x hx
  obtain ⟨g2, off2, h6, h7, h8⟩ := h5 y (by omega)
  subst h6
  rw [el] at e2
  exact ⟨g, off, g2, off2, c2, h1, by rw [(hb.cell (p := ⟨g, off + x, none⟩) h2).trans h3, e2], (hb.cell (p := ⟨g2, off2 + y, none⟩) h7).trans h8⟩

end

/-! Isotope: the exported functions of both sides. -/
section
open Go.RowKit Go.Shelf
set_option linter.unusedVariables false

noncomputable def rpB (n : Nat) (xs : List Int) : Bool := decide (xs.length = n) && pmB xs
theorem rpB_rowD {n : Nat} {xss : List (List Int)} {i : Nat} : rpB n (xss.getD i []) = true ↔ rowD n xss i := by
  unfold rpB rowD
  rw [Bool.and_eq_true, decide_eq_true_iff]
theorem isoOk_eq (n : Nat) (rs cs ss : List Int) : isoOk n rs cs ss = (rpB n rs && (rpB n cs && rpB n ss)) := by
  unfold isoOk
  have e0 : rpB n rs = true ↔ rowD n [rs, cs, ss] 0 := rpB_rowD (xss := [rs, cs, ss]) (i := 0)
  have e1 : rpB n cs = true ↔ rowD n [rs, cs, ss] 1 := rpB_rowD (xss := [rs, cs, ss]) (i := 1)
  have e2 : rpB n ss = true ↔ rowD n [rs, cs, ss] 2 := rpB_rowD (xss := [rs, cs, ss]) (i := 2)
  cases h0 : rpB n rs with
  | false =>
    rw [Bool.false_and]
    exact hpB_false (x := 0) (by simp) (fun k => by rw [e0.2 k] at h0; cases h0)
  | true =>
    cases h1 : rpB n cs with
    | false =>
      rw [Bool.true_and, Bool.false_and]
      exact hpB_false (x := 1) (by simp) (fun k => by rw [e1.2 k] at h1; cases h1)
    | true =>
      cases h2 : rpB n ss with
      | false =>
        rw [Bool.true_and, Bool.true_and]
        exact hpB_false (x := 2) (by simp) (fun k => by rw [e2.2 k] at h2; cases h2)
      | true =>
        refine hpB_true fun x hx => ?_
        rcases (show x = 0 ∨ x = 1 ∨ x = 2 by simp at hx; omega) with rfl | rfl | rfl
        · exact e0.1 h0
        · exact e1.1 h1
        · exact e2.1 h2

theorem IsSq.rowLen {xss : List (List Int)} (h : IsSq xss) : ∀ x, x < xss.length → (xss.getD x []).length = xss.length := fun x hx => (h.row x hx).1

end

/-! ReducedSquare: both exported functions. -/
section
open Go.RowKit Go.Shelf
set_option linter.unusedVariables false

noncomputable def ReducedSquare_0 (xss : List (List Int)) : List (List Int) := if sqB xss = true then gridL xss.length xss.length (redF xss.length (cellF xss)) else []
noncomputable def ReducedSquare_1 (xss : List (List Int)) : Int := if sqB xss = true then 0 else 1
theorem Red_bad {xss : List (List Int)} (h : sqB xss = false) : ReducedSquare_0 xss = [] ∧ ReducedSquare_1 xss = 1 := by unfold ReducedSquare_0 ReducedSquare_1; rw [h]; exact ⟨rfl, rfl⟩
theorem Red_ok {xss : List (List Int)} (h : sqB xss = true) : ReducedSquare_0 xss = gridL xss.length xss.length (redF xss.length (cellF xss)) ∧ ReducedSquare_1 xss = 0 := by unfold ReducedSquare_0 ReducedSquare_1; rw [h]; exact ⟨rfl, rfl⟩
theorem lenReducedSquare_0 (xss : List (List Int)) (hx : SmallLL xss) : (ReducedSquare_0 xss).length + tot (ReducedSquare_0 xss) ≤ 2000000 := by
  cases e : sqB xss with
  | false => rw [(Red_bad e).1]; decide
  | true =>
    have := (of_sqB e).hi
    rw [(Red_ok e).1, gridL_length, tot_gridL]
    have : xss.length * xss.length ≤ 10 * 10 := Nat.mul_le_mul this this
    omega
theorem IsSq.inSq {xss : List (List Int)} (h : IsSq xss) : InSq xss.length (cellF xss) := fun x y hx hy => h.cell hx hy
theorem red_sqF {n : Nat} (f : Nat → Nat → Int) : redF n (sqF n f) = redF n f := redF_congr fun x y hx hy => sqF_in f hx hy

theorem oneL_pm (n : Nat) : ∀ i, i < n → 0 ≤ (oneL n).getD i 0 ∧ (oneL n).getD i 0 < n := fun i hi => by rw [oneL_getD n i hi]; omega
theorem cellF_grid {n x y : Nat} (f : Nat → Nat → Int) (hx : x < n) (hy : y < n) : cellF (gridL n n f) x y = f x y := by
  unfold cellF; rw [gridL_getD f hx, rowf_getD _ hy]

end

/-! Quasigroups: the numbers. -/
section
open Go.RowKit
set_option linter.unusedVariables false

/-- All numbers below n have it; all pairs. -/
def allN : Nat → (Nat → Bool) → Bool
  | 0, _ => true
  | n + 1, P => allN n P && P n
theorem allN_true : ∀ {n : Nat} {P : Nat → Bool}, (∀ i, i < n → P i = true) → allN n P = true
  | 0, _, _ => rfl
  | n + 1, P, h => by rw [allN, allN_true (fun i hi => h i (by omega)), h n (by omega)]; rfl
theorem allN_at : ∀ {n : Nat} {P : Nat → Bool}, allN n P = true → ∀ i, i < n → P i = true
  | 0, _, _, i, hi => by omega
  | n + 1, P, h, i, hi => by
    rw [allN, Bool.and_eq_true] at h
    by_cases e : i = n
    · rw [e]; exact h.2
    · exact allN_at h.1 i (by omega)
theorem allN_false {n : Nat} {P : Nat → Bool} {i : Nat} (hi : i < n) (h : P i = false) : allN n P = false := by
  cases e : allN n P with
  | false => rfl
  | true => rw [allN_at e i hi] at h; cases h
theorem allN_congr {n : Nat} {P Q : Nat → Bool} (h : ∀ i, i < n → P i = Q i) : allN n P = allN n Q := by
  cases e : allN n Q with
  | true => exact allN_true fun i hi => by rw [h i hi]; exact allN_at e i hi
  | false =>
    cases e2 : allN n P with
    | false => rfl
    | true => rw [← e]; exact (allN_true fun i hi => by rw [← h i hi]; exact allN_at e2 i hi).symm
def allP (n : Nat) (P : Nat → Nat → Bool) : Bool := allN n fun x => allN n (P x)
theorem allP_true {n : Nat} {P : Nat → Nat → Bool} (h : ∀ x y, x < n → y < n → P x y = true) : allP n P = true := allN_true fun x hx => allN_true fun y hy => h x y hx hy
theorem allP_at {n : Nat} {P : Nat → Nat → Bool} (h : allP n P = true) (x y : Nat) (hx : x < n) (hy : y < n) : P x y = true := allN_at (allN_at h x hx) y hy
theorem allP_false {n : Nat} {P : Nat → Nat → Bool} {x y : Nat} (hx : x < n) (hy : y < n) (h : P x y = false) : allP n P = false := allN_false hx (allN_false hy h)
theorem allP_congr {n : Nat} {P Q : Nat → Nat → Bool} (h : ∀ x y, x < n → y < n → P x y = Q x y) : allP n P = allP n Q := allN_congr fun x hx => allN_congr fun y hy => h x y hx hy
/-- The first number below n that has it. -/
def fstN : Nat → (Nat → Bool) → Option Nat
  | 0, _ => none
  | n + 1, P => match fstN n P with
    | some e => some e
    | none => if P n = true then some n else none
theorem fstN_none : ∀ {n : Nat} {P : Nat → Bool}, (∀ k, k < n → P k = false) → fstN n P = none
  | 0, _, _ => rfl
  | n + 1, P, h => by rw [fstN, fstN_none (fun k hk => h k (by omega))]; simp [h n (by omega)]
theorem fstN_some : ∀ {n : Nat} {P : Nat → Bool} {e : Nat}, e < n → P e = true → (∀ k, k < e → P k = false) → fstN n P = some e
  | 0, _, e, h, _, _ => by omega
  | n + 1, P, e, h, h1, h2 => by
    rw [fstN]
    by_cases c : e < n
    · rw [fstN_some c h1 h2]
    · obtain rfl : e = n := by omega
      rw [fstN_none h2]; simp [h1]
theorem fstN_of : ∀ (n : Nat) (P : Nat → Bool), (fstN n P = none ∧ ∀ k, k < n → P k = false) ∨ ∃ e, e < n ∧ P e = true ∧ (∀ k, k < e → P k = false) ∧ fstN n P = some e
  | 0, P => .inl ⟨rfl, fun k hk => by omega⟩
  | n + 1, P => by
    rcases fstN_of n P with ⟨h1, h2⟩ | ⟨e, h1, h2, h3, h4⟩
    · cases c : P n with
      | true => exact .inr ⟨n, by omega, c, h2, fstN_some (by omega) c h2⟩
      | false =>
        have : ∀ k, k < n + 1 → P k = false := fun k hk => by
          by_cases e : k = n
          · rw [e]; exact c
          · exact h2 k (by omega)
        exact .inl ⟨fstN_none this, this⟩
    · exact .inr ⟨e, by omega, h2, h3, fstN_some (by omega) h2 h3⟩
theorem fstN_congr {n : Nat} {P Q : Nat → Bool} (h : ∀ i, i < n → P i = Q i) : fstN n P = fstN n Q := by
  rcases fstN_of n Q with ⟨h1, h2⟩ | ⟨e, h1, h2, h3, h4⟩
  · rw [h1]; exact fstN_none fun k hk => by rw [h k hk]; exact h2 k hk
  · rw [h4]; exact fstN_some h1 (by rw [h e h1]; exact h2) fun k hk => by rw [h k (by omega)]; exact h3 k hk
def optI : Option Nat → Int
  | none => 0
  | some e => e
/-- Left and right units. -/
def lftB (n : Nat) (f : Nat → Nat → Int) (e : Nat) : Bool := allN n fun x => f e x == ((x : Nat) : Int)
def rgtB (n : Nat) (f : Nat → Nat → Int) (e : Nat) : Bool := allN n fun x => f x e == ((x : Nat) : Int)
theorem lft_transposed {n : Nat} {f : Nat → Nat → Int} {e : Nat} (he : e < n) : lftB n (sqF n (fun x y => f y x)) e = rgtB n f e :=
  allN_congr fun x hx => by rw [sqF_in _ he hx]
theorem lft_congr {n : Nat} {f g : Nat → Nat → Int} (h : ∀ x y, x < n → y < n → f x y = g x y) {e : Nat} (he : e < n) : lftB n f e = lftB n g e := allN_congr fun x hx => by rw [h e x he hx]
theorem rgt_congr {n : Nat} {f g : Nat → Nat → Int} (h : ∀ x y, x < n → y < n → f x y = g x y) {e : Nat} (he : e < n) : rgtB n f e = rgtB n g e := allN_congr fun x hx => by rw [h x e hx he]
/-- Where there is a right unit, a left unit is a unit. -/
theorem unit_eq {n : Nat} {f : Nat → Nat → Int} (h : (fstN n (rgtB n f)).isSome = true) : fstN n (lftB n f) = fstN n (fun e => lftB n f e && rgtB n f e) := by
  rcases fstN_of n (rgtB n f) with ⟨h1, h2⟩ | ⟨r, h1, h2, h3, h4⟩
  · rw [h1] at h; cases h
  · refine fstN_congr fun e he => ?_
    cases c : lftB n f e with
    | false => rfl
    | true =>
      have a := allN_at c r h1
      have b := allN_at h2 e he
      simp only [beq_iff_eq] at a b
      have : r = e := by omega
      subst this
      rw [h2]; rfl
theorem unit_no {n : Nat} {f : Nat → Nat → Int} (h : (fstN n (rgtB n f)).isSome = false) : fstN n (fun e => lftB n f e && rgtB n f e) = none := by
  rcases fstN_of n (rgtB n f) with ⟨h1, h2⟩ | ⟨r, h1, h2, h3, h4⟩
  · exact fstN_none fun k hk => by rw [h2 k hk, Bool.and_false]
  · rw [h4] at h; cases h
/-- Three numbers that associate. -/
def as3 (f : Nat → Nat → Int) (x y z : Nat) : Bool := f (f x y).toNat z == f x (f y z).toNat
def assB (n : Nat) (f : Nat → Nat → Int) : Bool := allP n fun x y => allN n (as3 f x y)
theorem assB_false {n : Nat} {f : Nat → Nat → Int} {x y z : Nat} (hx : x < n) (hy : y < n) (hz : z < n) (h : as3 f x y z = false) : assB n f = false := allP_false hx hy (allN_false hz h)
theorem assB_true {n : Nat} {f : Nat → Nat → Int} (h : ∀ x y z, x < n → y < n → z < n → as3 f x y z = true) : assB n f = true := allP_true fun x y hx hy => allN_true fun z hz => h x y z hx hy hz
theorem assB_congr {n : Nat} {f g : Nat → Nat → Int} (hf : InSq n f) (h : ∀ x y, x < n → y < n → f x y = g x y) : assB n f = assB n g :=
  allP_congr fun x y hx hy => allN_congr fun z hz => by
    have e1 := hf x y hx hy
    have e2 := hf y z hy hz
    unfold as3
    rw [← h x y hx hy, ← h y z hy hz, h (f x y).toNat z (by omega) hz, h x (f y z).toNat hx (by omega)]
theorem redF_in {n : Nat} {f : Nat → Nat → Int} (h1 : 1 ≤ n) (h : InSq n f) : InSq n (redF n f) := fun a b _ _ =>
  movSt_range (P := fun z => 0 ≤ z ∧ z < n) (by omega) n (fun a b ha hb => ordF_in h1 h a b) a b
end

/-! Quasigroups: the program's pairs, units and associativity. -/
section
open Go.RowKit Go.Shelf
set_option linter.unusedVariables false

/-- What a function on pairs answers, reading what lies below B. -/
def PairOk (w : World) (B : Nat) (s : Value) (n : Nat) (P : Nat → Nat → Bool) : Prop :=
  ∃ fn fs cs, s = .func (.func fn) fs cs ∧ (∀ args W, (callFunc fn args).run Try.prog W = .ok (.enter fn args) W) ∧ ∀ (W : World) (x y : Nat), Below B w W → x < n → y < n → Calls Try.prog fn (fs ++ (#[.int .i64 x, .int .i64 y] ++ cs)) W fun e W' => e = .returned (.bool (P x y)) ∧ Below W.heap.size W W'

end

/-! Quasigroups: the model's units and associativity. -/
section
open Go.RowKit Go.Shelf
set_option linter.unusedVariables false

theorem RowsAt.look2 {w : World} {v : Value} {xss : List (List Int)} {n : Nat} (h : RowsAt w v xss) (hn : xss.length = n) (hr : ∀ x, x < n → (xss.getD x []).length = n) (h1 : 1 ≤ n) :
    ∃ g off c, v = .slice (some ⟨g, off, none⟩) n c ∧ ∀ W, Below w.heap.size w W → ∀ x, x < n → ∃ g2 off2 c2, W.cell? ⟨g, off + x, none⟩ = some (.slice (some ⟨g2, off2, none⟩) n c2) ∧ ∀ y, y < n → W.cell? ⟨g2, off2 + y, none⟩ = some (.int .i64 (cellF xss x y)) := by
  obtain ⟨a, c, e, K⟩ := h.look hn hr
  obtain ⟨g, off, _, _, _, e1, -, -⟩ := K w (Below.refl _ _) 0 0 (by omega) (by omega)
  subst e1
  refine ⟨g, off, c, e, fun W hb x hx => ?_⟩
  obtain ⟨g', off', g2, off2, c2, e2, m1, m2⟩ := K W hb x 0 hx (by omega)
  simp only [Option.some.injEq, Addr.mk.injEq] at e2
  obtain ⟨rfl, rfl, -⟩ := e2
  refine ⟨g2, off2, c2, m1, fun y hy => ?_⟩
  obtain ⟨g'', off'', g3, off3, c3, e3, m3, m4⟩ := K W hb x y hx hy
  simp only [Option.some.injEq, Addr.mk.injEq] at e3
  obtain ⟨rfl, rfl, -⟩ := e3
  rw [m1] at m3
  simp only [Option.some.injEq, Value.slice.injEq, Addr.mk.injEq] at m3
  obtain ⟨⟨rfl, rfl, -⟩, -, rfl⟩ := m3
  exact m4

end

/-! ValidSquare: both sides. -/
section
open Go.RowKit
set_option linter.unusedVariables false

noncomputable def ValidSquare_0 (xss : List (List Int)) : Bool := sqB xss

end

/-! Identities of quasigroups: the numbers. -/
section
open Go.RowKit
set_option linter.unusedVariables false

def isI (f : Nat → Nat → Int) (x y : Nat) : Bool := f x x == ((x : Nat) : Int)
def isU (f : Nat → Nat → Int) (x y : Nat) : Bool := f x x == f y y
def isC (f : Nat → Nat → Int) (x y : Nat) : Bool := f x y == f y x
def isS (f : Nat → Nat → Int) (x y : Nat) : Bool := f x (f y x).toNat == ((y : Nat) : Int)
/-- Whether a square has an identity. -/
def idB (n : Nat) (f : Nat → Nat → Int) (k : Nat) : Bool :=
  if k = 1 then allP n (isI f) else if k = 2 then allP n (isU f) else if k = 3 then allP n (isC f) else if k = 4 then (fstN n (lftB n f)).isSome
  else if k = 5 then (fstN n (rgtB n f)).isSome else if k = 6 then assB n f else if k = 7 then allP n (isS f) else if k = 8 then allP n (isC f) && allP n (isS f) else false
theorem id1 (n : Nat) (f : Nat → Nat → Int) : idB n f 1 = allP n (isI f) := rfl
theorem id2 (n : Nat) (f : Nat → Nat → Int) : idB n f 2 = allP n (isU f) := rfl
theorem id3 (n : Nat) (f : Nat → Nat → Int) : idB n f 3 = allP n (isC f) := rfl
theorem id4 (n : Nat) (f : Nat → Nat → Int) : idB n f 4 = (fstN n (lftB n f)).isSome := rfl
theorem id5 (n : Nat) (f : Nat → Nat → Int) : idB n f 5 = (fstN n (rgtB n f)).isSome := rfl
theorem id6 (n : Nat) (f : Nat → Nat → Int) : idB n f 6 = assB n f := rfl
theorem id7 (n : Nat) (f : Nat → Nat → Int) : idB n f 7 = allP n (isS f) := rfl
theorem id8 (n : Nat) (f : Nat → Nat → Int) : idB n f 8 = (allP n (isC f) && allP n (isS f)) := rfl
theorem diag1 (n : Nat) (f : Nat → Nat → Int) : allP n (isI f) = allN n (fun x => f x x == ((x : Nat) : Int)) := by
  cases e : allN n (fun x => f x x == ((x : Nat) : Int)) with
  | true => exact allP_true fun x y hx hy => allN_at e x hx
  | false =>
    cases e2 : allP n (isI f) with
    | false => rfl
    | true =>
      have : allN n (fun x => f x x == ((x : Nat) : Int)) = true := allN_true fun x hx => allP_at e2 x x hx hx
      rw [this] at e; cases e
theorem diag2 (n : Nat) (f : Nat → Nat → Int) (h : 1 ≤ n) : allP n (isU f) = allN n (fun x => f x x == f 0 0) := by
  cases e : allN n (fun x => f x x == f 0 0) with
  | true =>
    refine allP_true fun x y hx hy => ?_
    have a := allN_at e x hx
    have b := allN_at e y hy
    simp only [beq_iff_eq] at a b
    unfold isU
    rw [a, b]; simp
  | false =>
    cases e2 : allP n (isU f) with
    | false => rfl
    | true =>
      have : allN n (fun x => f x x == f 0 0) = true := allN_true fun x hx => allP_at e2 x 0 hx (by omega)
      rw [this] at e; cases e
theorem isS_congr {n : Nat} {f g : Nat → Nat → Int} (hf : InSq n f) (h : ∀ x y, x < n → y < n → f x y = g x y) : allP n (isS f) = allP n (isS g) :=
  allP_congr fun x y hx hy => by
    have e := hf y x hy hx
    unfold isS
    rw [← h y x hy hx, ← h x (f y x).toNat hx (by omega)]
theorem id_congr {n : Nat} {f g : Nat → Nat → Int} (hf : InSq n f) (h : ∀ x y, x < n → y < n → f x y = g x y) (k : Nat) : idB n f k = idB n g k := by
  have e1 : allP n (isI f) = allP n (isI g) := allP_congr fun x y hx hy => by unfold isI; rw [h x x hx hx]
  have e2 : allP n (isU f) = allP n (isU g) := allP_congr fun x y hx hy => by unfold isU; rw [h x x hx hx, h y y hy hy]
  have e3 : allP n (isC f) = allP n (isC g) := allP_congr fun x y hx hy => by unfold isC; rw [h x y hx hy, h y x hy hx]
  have e4 : fstN n (lftB n f) = fstN n (lftB n g) := fstN_congr fun e he => lft_congr h he
  have e5 : fstN n (rgtB n f) = fstN n (rgtB n g) := fstN_congr fun e he => rgt_congr h he
  have e6 : assB n f = assB n g := assB_congr hf h
  have e7 := isS_congr hf h
  unfold idB
  rw [e1, e2, e3, e4, e5, e6, e7]
def idsL (n : Nat) (f : Nat → Nat → Int) (k : Nat) : List Int := fls k (idB n f)
theorem ids_one (n : Nat) (f : Nat → Nat → Int) : idsL n f 1 = [] := by
  unfold idsL; rw [fls_succ]; rfl
theorem ids_yes {n : Nat} {f : Nat → Nat → Int} {k : Nat} (h : idB n f k = true) : idsL n f k ++ [(k : Int)] = idsL n f (k + 1) := by
  unfold idsL; rw [fls_succ, if_pos h]
theorem ids_no {n : Nat} {f : Nat → Nat → Int} {k : Nat} (h : idB n f k = false) : idsL n f k = idsL n f (k + 1) := by
  unfold idsL; rw [fls_succ, h]; simp
noncomputable def IdentitiesOf_0 (xss : List (List Int)) : List Int := if sqB xss = true then idsL xss.length (cellF xss) 9 else []
noncomputable def IdentitiesOf_1 (xss : List (List Int)) : Int := if sqB xss = true then 0 else 1
theorem lenIdentitiesOf_0 (xss : List (List Int)) (hx : SmallLL xss) : (IdentitiesOf_0 xss).length ≤ 2000000 := by
  unfold IdentitiesOf_0
  split
  · have := fls_len 9 (idB xss.length (cellF xss)); unfold idsL; omega
  · simp
end

/-! Identities of quasigroups: the program's closures and rules. -/
section
open Go.RowKit Go.Shelf
set_option linter.unusedVariables false

end

/-! Identities of quasigroups: the model. -/
section
open Go.RowKit Go.Shelf
set_option linter.unusedVariables false

end
end Go.Proofs.Ytodlcjdbpibacaa
