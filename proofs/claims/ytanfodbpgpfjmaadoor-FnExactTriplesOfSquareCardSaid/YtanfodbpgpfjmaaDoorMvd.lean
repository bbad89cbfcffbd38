/- The program's moved: the cells of a square moved one by one. -/
import Derived.Test.YtanfodbpgpfjmaaDoorFil
import Derived.WalkMore
import Derived.Deep.LoopGhost
import Derived.StillTailTactics
import Derived.Test.YtanfodbpgpfjmaaDoorBit
namespace Go.Proofs.YtanfodbpgpfjmaaDoor
open Go.RowKit Go.Shelf
set_option linter.unusedVariables false

/-- A cell as a value. -/
def cellV (x y : Nat) (z : Int) : Value := .agg #[.int .i64 x, .int .i64 y, .int .i64 z]
/-- What a function on cells answers, reading what lies below B. -/
def MoveOk (w : World) (B : Nat) (s : Value) (n : Nat) (f : Nat → Nat → Int) (mv : Nat → Nat → Nat × Nat × Int) : Prop :=
  ∃ fn fs cs, s = .func (.func fn) fs cs ∧ (∀ args W, (callFunc fn args).run Tryd.prog W = .ok (.enter fn args) W) ∧ ∀ (W : World) (x y : Nat), Below B w W → x < n → y < n → Calls Tryd.prog fn (fs.push (.agg #[.int .i64 x, .int .i64 y, .int .i64 (f x y)]) ++ cs) W fun e W' => e = .returned (.agg #[.int .i64 (mv x y).1, .int .i64 (mv x y).2.1, .int .i64 (mv x y).2.2]) ∧ Below W.heap.size W W'

section
open Go.RowKit Go.Shelf
set_option linter.unusedVariables false

/-- Where the cell in row x and column y goes. -/
def isoMv (xss : List (List Int)) (rs cs ss : List Int) : Nat → Nat → Nat × Nat × Int := fun x y => ((rs.getD x 0).toNat, (cs.getD y 0).toNat, ss.getD (cellF xss x y).toNat 0)
def isoL (xss : List (List Int)) (rs cs ss : List Int) : List (List Int) := gridL xss.length xss.length (movSt xss.length (isoMv xss rs cs ss) xss.length)
noncomputable def isoOk (n : Nat) (rs cs ss : List Int) : Bool := hpB n [rs, cs, ss]
noncomputable def Isotope_0 (xss : List (List Int)) (rs cs ss : List Int) : List (List Int) := if sqB xss = true ∧ isoOk xss.length rs cs ss = true then isoL xss rs cs ss else []
noncomputable def Isotope_1 (xss : List (List Int)) (rs cs ss : List Int) : Int := if sqB xss = true then if isoOk xss.length rs cs ss = true then 0 else 2 else 1
theorem Iso_bad {xss : List (List Int)} {rs cs ss : List Int} (h : sqB xss = false) : Isotope_0 xss rs cs ss = [] ∧ Isotope_1 xss rs cs ss = 1 := by unfold Isotope_0 Isotope_1; rw [h]; exact ⟨rfl, rfl⟩
theorem Iso_no {xss : List (List Int)} {rs cs ss : List Int} (h : sqB xss = true) (k : isoOk xss.length rs cs ss = false) : Isotope_0 xss rs cs ss = [] ∧ Isotope_1 xss rs cs ss = 2 := by unfold Isotope_0 Isotope_1; rw [h, k]; exact ⟨rfl, rfl⟩
theorem Iso_ok {xss : List (List Int)} {rs cs ss : List Int} (h : sqB xss = true) (k : isoOk xss.length rs cs ss = true) : Isotope_0 xss rs cs ss = isoL xss rs cs ss ∧ Isotope_1 xss rs cs ss = 0 := by unfold Isotope_0 Isotope_1; rw [h, k]; exact ⟨rfl, rfl⟩
theorem lenIsotope_0 (xss : List (List Int)) (rs cs ss : List Int) (hx : SmallLL xss) (h1 : SmallL rs) (h2 : SmallL cs) (h3 : SmallL ss) : (Isotope_0 xss rs cs ss).length + tot (Isotope_0 xss rs cs ss) ≤ 2000000 := by
  cases e : sqB xss with
  | false => rw [(Iso_bad e).1]; decide
  | true =>
    cases k : isoOk xss.length rs cs ss with
    | false => rw [(Iso_no e k).1]; decide
    | true =>
      have := (of_sqB e).hi
      rw [(Iso_ok e k).1]
      unfold isoL
      rw [gridL_length, tot_gridL]
      have : xss.length * xss.length ≤ 10 * 10 := Nat.mul_le_mul this this
      omega
/-- A permutation of a degree: its members. -/
theorem pm_mem {n : Nat} {rs : List Int} (h1 : rs.length = n) (h2 : pmB rs = true) {i : Nat} (hi : i < n) : 0 ≤ rs.getD i 0 ∧ rs.getD i 0 < n := by
  have := (of_pmB h2).2 i (by omega)
  unfold okPm at this
  omega
theorem isoOk_parts {n : Nat} {rs cs ss : List Int} (h : isoOk n rs cs ss = true) : (rs.length = n ∧ pmB rs = true) ∧ (cs.length = n ∧ pmB cs = true) ∧ (ss.length = n ∧ pmB ss = true) :=
  ⟨of_hpB h 0 (by simp), of_hpB h 1 (by simp), of_hpB h 2 (by simp)⟩
theorem isoMv_lt {xss : List (List Int)} {rs cs ss : List Int} (h : isoOk xss.length rs cs ss = true) {x y : Nat} (hx : x < xss.length) (hy : y < xss.length) : (isoMv xss rs cs ss x y).1 < xss.length ∧ (isoMv xss rs cs ss x y).2.1 < xss.length := by
  obtain ⟨⟨a1, a2⟩, ⟨b1, b2⟩, _⟩ := isoOk_parts h
  have := pm_mem a1 a2 hx
  have := pm_mem b1 b2 hy
  unfold isoMv
  simp only
  omega

end

/-! The reduced form of a square: the numbers; the program's closures and reduced. -/
section
open Go.RowKit Go.Shelf
set_option linter.unusedVariables false

def redMv1 (f : Nat → Nat → Int) : Nat → Nat → Nat × Nat × Int := fun x y => (x, (f 0 y).toNat, f x y)
def redMv2 (f : Nat → Nat → Int) : Nat → Nat → Nat × Nat × Int := fun x y => ((f x 0).toNat, y, f x y)
def ordF (n : Nat) (f : Nat → Nat → Int) : Nat → Nat → Int := movSt n (redMv1 f) n
def redF (n : Nat) (f : Nat → Nat → Int) : Nat → Nat → Int := movSt n (redMv2 (ordF n f)) n
theorem rowSt_congr {mv mv' : Nat → Nat → Nat × Nat × Int} {x : Nat} {f : Nat → Nat → Int} : ∀ y, (∀ b, b < y → mv x b = mv' x b) → rowSt mv x f y = rowSt mv' x f y
  | 0, _ => rfl
  | y + 1, h => by rw [rowSt, rowSt, rowSt_congr y (fun b hb => h b (by omega)), h y (by omega)]
theorem movSt_congr {n : Nat} {mv mv' : Nat → Nat → Nat × Nat × Int} : ∀ x, (∀ a b, a < x → b < n → mv a b = mv' a b) → movSt n mv x = movSt n mv' x
  | 0, _ => rfl
  | x + 1, h => by rw [movSt, movSt, movSt_congr x (fun a b ha hb => h a b (by omega) hb), rowSt_congr n (fun b hb => h x b (by omega) hb)]
theorem rowSt_range {P : Int → Prop} {mv : Nat → Nat → Nat × Nat × Int} {x : Nat} {f : Nat → Nat → Int} (hf : ∀ a b, P (f a b)) : ∀ y, (∀ b, b < y → P (mv x b).2.2) → ∀ a b, P (rowSt mv x f y a b)
  | 0, _ => hf
  | y + 1, h => fun a b => by
    rw [rowSt]
    unfold upd2
    split
    · exact h y (by omega)
    · exact rowSt_range hf y (fun b hb => h b (by omega)) a b
theorem movSt_range {P : Int → Prop} (h0 : P 0) {n : Nat} {mv : Nat → Nat → Nat × Nat × Int} : ∀ x, (∀ a b, a < x → b < n → P (mv a b).2.2) → ∀ a b, P (movSt n mv x a b)
  | 0, _ => fun _ _ => h0
  | x + 1, h => rowSt_range (movSt_range h0 x (fun a b ha hb => h a b (by omega) hb)) n (fun b hb => h x b (by omega) hb)
def InSq (n : Nat) (f : Nat → Nat → Int) : Prop := ∀ x y, x < n → y < n → 0 ≤ f x y ∧ f x y < n
theorem ordF_in {n : Nat} {f : Nat → Nat → Int} (h1 : 1 ≤ n) (h : InSq n f) : ∀ a b, 0 ≤ ordF n f a b ∧ ordF n f a b < n :=
  movSt_range (P := fun z => 0 ≤ z ∧ z < n) (by omega) n (fun a b ha hb => h a b ha hb)
theorem ordF_congr {n : Nat} {f g : Nat → Nat → Int} (h : ∀ x y, x < n → y < n → f x y = g x y) : ordF n f = ordF n g :=
  movSt_congr n (fun a b ha hb => by unfold redMv1; rw [h 0 b (by omega) hb, h a b ha hb])
theorem redF_congr {n : Nat} {f g : Nat → Nat → Int} (h : ∀ x y, x < n → y < n → f x y = g x y) : redF n f = redF n g := by unfold redF; rw [ordF_congr h]

end

/-! Isotope: the model. -/
section
open Go.RowKit
set_option linter.unusedVariables false

theorem IntsAt.look {w : World} {v : Value} {xs : List Int} {n : Nat} (h : IntsAt w v xs) (hn : xs.length = n) : ∃ a c, v = .slice a n c ∧ ∀ W, Below w.heap.size w W → ∀ i, i < n → ∃ g off, a = some ⟨g, off, none⟩ ∧ W.cell? ⟨g, off + i, none⟩ = some (.int .i64 (xs.getD i 0)) := by
  obtain ⟨a, c, e, k⟩ := part2 h
  rw [hn] at e k
  refine ⟨a, c, e, fun W hb i hi => ?_⟩
  obtain ⟨g, off, h1, h2, h3⟩ := k i hi
  exact ⟨g, off, h1, (hb.cell (p := ⟨g, off + i, none⟩) h2).trans h3⟩
theorem RowsAt.look {w : World} {v : Value} {xss : List (List Int)} {n : Nat} (h : RowsAt w v xss) (hn : xss.length = n) (hr : ∀ x, x < n → (xss.getD x []).length = n) :
    ∃ a c, v = .slice a n c ∧ ∀ W, Below w.heap.size w W → ∀ x y, x < n → y < n → ∃ g off g2 off2 c2, a = some ⟨g, off, none⟩ ∧ W.cell? ⟨g, off + x, none⟩ = some (.slice (some ⟨g2, off2, none⟩) n c2) ∧ W.cell? ⟨g2, off2 + y, none⟩ = some (.int .i64 (cellF xss x y)) := by
  obtain ⟨a, c, e, -, hc⟩ := h.cellsOf
  rw [hn] at e
  refine ⟨a, c, e, fun W hb x y hx hy => ?_⟩
  obtain ⟨g, off, u, h1, h2, h3, h4⟩ := hc x (by omega)
  obtain ⟨a2, c2, e2, _, _, h5⟩ := h4.part
  have el := hr x hx
  obtain ⟨g2, off2, h6, h7, h8⟩ := h5 y (by omega)
  subst h6
  rw [el] at e2
  exact ⟨g, off, g2, off2, c2, h1, by rw [(hb.cell (p := ⟨g, off + x, none⟩) h2).trans h3, e2], (hb.cell (p := ⟨g2, off2 + y, none⟩) h7).trans h8⟩

end

/-! Isotope: the exported functions of both sides. -/
section
open Go.RowKit Go.Shelf
set_option linter.unusedVariables false

noncomputable def rpB (n : Nat) (xs : List Int) : Bool := decide (xs.length = n) && pmB xs
theorem rpB_rowD {n : Nat} {xss : List (List Int)} {i : Nat} : rpB n (xss.getD i []) = true ↔ rowD n xss i := by
  unfold rpB rowD
  rw [Bool.and_eq_true, decide_eq_true_iff]
theorem isoOk_eq (n : Nat) (rs cs ss : List Int) : isoOk n rs cs ss = (rpB n rs && (rpB n cs && rpB n ss)) := by
  unfold isoOk
  have e0 : rpB n rs = true ↔ rowD n [rs, cs, ss] 0 := rpB_rowD (xss := [rs, cs, ss]) (i := 0)
  have e1 : rpB n cs = true ↔ rowD n [rs, cs, ss] 1 := rpB_rowD (xss := [rs, cs, ss]) (i := 1)
  have e2 : rpB n ss = true ↔ rowD n [rs, cs, ss] 2 := rpB_rowD (xss := [rs, cs, ss]) (i := 2)
  cases h0 : rpB n rs with
  | false =>
    rw [Bool.false_and]
    exact hpB_false (x := 0) (by simp) (fun k => by rw [e0.2 k] at h0; cases h0)
  | true =>
    cases h1 : rpB n cs with
    | false =>
      rw [Bool.true_and, Bool.false_and]
      exact hpB_false (x := 1) (by simp) (fun k => by rw [e1.2 k] at h1; cases h1)
    | true =>
      cases h2 : rpB n ss with
      | false =>
        rw [Bool.true_and, Bool.true_and]
        exact hpB_false (x := 2) (by simp) (fun k => by rw [e2.2 k] at h2; cases h2)
      | true =>
        refine hpB_true fun x hx => ?_
        rcases (show x = 0 ∨ x = 1 ∨ x = 2 by simp at hx; omega) with rfl | rfl | rfl
        · exact e0.1 h0
        · exact e1.1 h1
        · exact e2.1 h2

theorem IsSq.rowLen {xss : List (List Int)} (h : IsSq xss) : ∀ x, x < xss.length → (xss.getD x []).length = xss.length := fun x hx => (h.row x hx).1

end

/-! ReducedSquare: both exported functions. -/
section
open Go.RowKit Go.Shelf
set_option linter.unusedVariables false

noncomputable def ReducedSquare_0 (xss : List (List Int)) : List (List Int) := if sqB xss = true then gridL xss.length xss.length (redF xss.length (cellF xss)) else []
noncomputable def ReducedSquare_1 (xss : List (List Int)) : Int := if sqB xss = true then 0 else 1
theorem Red_bad {xss : List (List Int)} (h : sqB xss = false) : ReducedSquare_0 xss = [] ∧ ReducedSquare_1 xss = 1 := by unfold ReducedSquare_0 ReducedSquare_1; rw [h]; exact ⟨rfl, rfl⟩
theorem Red_ok {xss : List (List Int)} (h : sqB xss = true) : ReducedSquare_0 xss = gridL xss.length xss.length (redF xss.length (cellF xss)) ∧ ReducedSquare_1 xss = 0 := by unfold ReducedSquare_0 ReducedSquare_1; rw [h]; exact ⟨rfl, rfl⟩
theorem lenReducedSquare_0 (xss : List (List Int)) (hx : SmallLL xss) : (ReducedSquare_0 xss).length + tot (ReducedSquare_0 xss) ≤ 2000000 := by
  cases e : sqB xss with
  | false => rw [(Red_bad e).1]; decide
  | true =>
    have := (of_sqB e).hi
    rw [(Red_ok e).1, gridL_length, tot_gridL]
    have : xss.length * xss.length ≤ 10 * 10 := Nat.mul_le_mul this this
    omega
theorem IsSq.inSq {xss : List (List Int)} (h : IsSq xss) : InSq xss.length (cellF xss) := fun x y hx hy => h.cell hx hy
theorem red_sqF {n : Nat} (f : Nat → Nat → Int) : redF n (sqF n f) = redF n f := redF_congr fun x y hx hy => sqF_in f hx hy

theorem oneL_pm (n : Nat) : ∀ i, i < n → 0 ≤ (oneL n).getD i 0 ∧ (oneL n).getD i 0 < n := fun i hi => by rw [oneL_getD n i hi]; omega
theorem cellF_grid {n x y : Nat} (f : Nat → Nat → Int) (hx : x < n) (hy : y < n) : cellF (gridL n n f) x y = f x y := by
  unfold cellF; rw [gridL_getD f hx, rowf_getD _ hy]

end

/-! Quasigroups: the numbers. -/
section
open Go.RowKit
set_option linter.unusedVariables false

/-- All numbers below n have it; all pairs. -/
def allN : Nat → (Nat → Bool) → Bool
  | 0, _ => true
  | n + 1, P => allN n P && P n
theorem allN_true : ∀ {n : Nat} {P : Nat → Bool}, (∀ i, i < n → P i = true) → allN n P = true
  | 0, _, _ => rfl
  | n + 1, P, h => by rw [allN, allN_true (fun i hi => h i (by omega)), h n (by omega)]; rfl
theorem allN_at : ∀ {n : Nat} {P : Nat → Bool}, allN n P = true → ∀ i, i < n → P i = true
  | 0, _, _, i, hi => by omega
  | n + 1, P, h, i, hi => by
    rw [allN, Bool.and_eq_true] at h
    by_cases e : i = n
    · rw [e]; exact h.2
    · exact allN_at h.1 i (by omega)
theorem allN_false {n : Nat} {P : Nat → Bool} {i : Nat} (hi : i < n) (h : P i = false) : allN n P = false := by
  cases e : allN n P with
  | false => rfl
  | true => rw [allN_at e i hi] at h; cases h
theorem allN_congr {n : Nat} {P Q : Nat → Bool} (h : ∀ i, i < n → P i = Q i) : allN n P = allN n Q := by
  cases e : allN n Q with
  | true => exact allN_true fun i hi => by rw [h i hi]; exact allN_at e i hi
  | false =>
    cases e2 : allN n P with
    | false => rfl
    | true => rw [← e]; exact (allN_true fun i hi => by rw [← h i hi]; exact allN_at e2 i hi).symm
def allP (n : Nat) (P : Nat → Nat → Bool) : Bool := allN n fun x => allN n (P x)
theorem allP_true {n : Nat} {P : Nat → Nat → Bool} (h : ∀ x y, x < n → y < n → P x y = true) : allP n P = true := allN_true fun x hx => allN_true fun y hy => h x y hx hy
theorem allP_at {n : Nat} {P : Nat → Nat → Bool} (h : allP n P = true) (x y : Nat) (hx : x < n) (hy : y < n) : P x y = true := allN_at (allN_at h x hx) y hy
theorem allP_false {n : Nat} {P : Nat → Nat → Bool} {x y : Nat} (hx : x < n) (hy : y < n) (h : P x y = false) : allP n P = false := allN_false hx (allN_false hy h)
theorem allP_congr {n : Nat} {P Q : Nat → Nat → Bool} (h : ∀ x y, x < n → y < n → P x y = Q x y) : allP n P = allP n Q := allN_congr fun x hx => allN_congr fun y hy => h x y hx hy
/-- The first number below n that has it. -/
def fstN : Nat → (Nat → Bool) → Option Nat
  | 0, _ => none
  | n + 1, P => match fstN n P with
    | some e => some e
    | none => if P n = true then some n else none
theorem fstN_none : ∀ {n : Nat} {P : Nat → Bool}, (∀ k, k < n → P k = false) → fstN n P = none
  | 0, _, _ => rfl
  | n + 1, P, h => by rw [fstN, fstN_none (fun k hk => h k (by omega))]; simp [h n (by omega)]
theorem fstN_some : ∀ {n : Nat} {P : Nat → Bool} {e : Nat}, e < n → P e = true → (∀ k, k < e → P k = false) → fstN n P = some e
  | 0, _, e, h, _, _ => by omega
  | n + 1, P, e, h, h1, h2 => by
    rw [fstN]
    by_cases c : e < n
    · rw [fstN_some c h1 h2]
    · obtain rfl : e = n := by omega
      rw [fstN_none h2]; simp [h1]
theorem fstN_of : ∀ (n : Nat) (P : Nat → Bool), (fstN n P = none ∧ ∀ k, k < n → P k = false) ∨ ∃ e, e < n ∧ P e = true ∧ (∀ k, k < e → P k = false) ∧ fstN n P = some e
  | 0, P => .inl ⟨rfl, fun k hk => by omega⟩
  | n + 1, P => by
    rcases fstN_of n P with ⟨h1, h2⟩ | ⟨e, h1, h2, h3, h4⟩
    · cases c : P n with
      | true => exact .inr ⟨n, by omega, c, h2, fstN_some (by omega) c h2⟩
      | false =>
        have : ∀ k, k < n + 1 → P k = false := fun k hk => by
          by_cases e : k = n
          · rw [e]; exact c
          · exact h2 k (by omega)
        exact .inl ⟨fstN_none this, this⟩
    · exact .inr ⟨e, by omega, h2, h3, fstN_some (by omega) h2 h3⟩
theorem fstN_congr {n : Nat} {P Q : Nat → Bool} (h : ∀ i, i < n → P i = Q i) : fstN n P = fstN n Q := by
  rcases fstN_of n Q with ⟨h1, h2⟩ | ⟨e, h1, h2, h3, h4⟩
  · rw [h1]; exact fstN_none fun k hk => by rw [h k hk]; exact h2 k hk
  · rw [h4]; exact fstN_some h1 (by rw [h e h1]; exact h2) fun k hk => by rw [h k (by omega)]; exact h3 k hk
def optI : Option Nat → Int
  | none => 0
  | some e => e
/-- Left and right units. -/
def lftB (n : Nat) (f : Nat → Nat → Int) (e : Nat) : Bool := allN n fun x => f e x == ((x : Nat) : Int)
def rgtB (n : Nat) (f : Nat → Nat → Int) (e : Nat) : Bool := allN n fun x => f x e == ((x : Nat) : Int)
theorem lft_transposed {n : Nat} {f : Nat → Nat → Int} {e : Nat} (he : e < n) : lftB n (sqF n (fun x y => f y x)) e = rgtB n f e :=
  allN_congr fun x hx => by rw [sqF_in _ he hx]
theorem lft_congr {n : Nat} {f g : Nat → Nat → Int} (h : ∀ x y, x < n → y < n → f x y = g x y) {e : Nat} (he : e < n) : lftB n f e = lftB n g e := allN_congr fun x hx => by rw [h e x he hx]
theorem rgt_congr {n : Nat} {f g : Nat → Nat → Int} (h : ∀ x y, x < n → y < n → f x y = g x y) {e : Nat} (he : e < n) : rgtB n f e = rgtB n g e := allN_congr fun x hx => by rw [h x e hx he]
/-- Where there is a right unit, a left unit is a unit. -/
theorem unit_eq {n : Nat} {f : Nat → Nat → Int} (h : (fstN n (rgtB n f)).isSome = true) : fstN n (lftB n f) = fstN n (fun e => lftB n f e && rgtB n f e) := by
  rcases fstN_of n (rgtB n f) with ⟨h1, h2⟩ | ⟨r, h1, h2, h3, h4⟩
  · rw [h1] at h; cases h
  · refine fstN_congr fun e he => ?_
    cases c : lftB n f e with
    | false => rfl
    | true =>
      have a := allN_at c r h1
      have b := allN_at h2 e he
      simp only [beq_iff_eq] at a b
      have : r = e := by omega
      subst this
      rw [h2]; rfl
theorem unit_no {n : Nat} {f : Nat → Nat → Int} (h : (fstN n (rgtB n f)).isSome = false) : fstN n (fun e => lftB n f e && rgtB n f e) = none := by
  rcases fstN_of n (rgtB n f) with ⟨h1, h2⟩ | ⟨r, h1, h2, h3, h4⟩
  · exact fstN_none fun k hk => by rw [h2 k hk, Bool.and_false]
  · rw [h4] at h; cases h
/-- Three numbers that associate. -/
def as3 (f : Nat → Nat → Int) (x y z : Nat) : Bool := f (f x y).toNat z == f x (f y z).toNat
def assB (n : Nat) (f : Nat → Nat → Int) : Bool := allP n fun x y => allN n (as3 f x y)
theorem assB_false {n : Nat} {f : Nat → Nat → Int} {x y z : Nat} (hx : x < n) (hy : y < n) (hz : z < n) (h : as3 f x y z = false) : assB n f = false := allP_false hx hy (allN_false hz h)
theorem assB_true {n : Nat} {f : Nat → Nat → Int} (h : ∀ x y z, x < n → y < n → z < n → as3 f x y z = true) : assB n f = true := allP_true fun x y hx hy => allN_true fun z hz => h x y z hx hy hz
theorem assB_congr {n : Nat} {f g : Nat → Nat → Int} (hf : InSq n f) (h : ∀ x y, x < n → y < n → f x y = g x y) : assB n f = assB n g :=
  allP_congr fun x y hx hy => allN_congr fun z hz => by
    have e1 := hf x y hx hy
    have e2 := hf y z hy hz
    unfold as3
    rw [← h x y hx hy, ← h y z hy hz, h (f x y).toNat z (by omega) hz, h x (f y z).toNat hx (by omega)]
theorem redF_in {n : Nat} {f : Nat → Nat → Int} (h1 : 1 ≤ n) (h : InSq n f) : InSq n (redF n f) := fun a b _ _ =>
  movSt_range (P := fun z => 0 ≤ z ∧ z < n) (by omega) n (fun a b ha hb => ordF_in h1 h a b) a b
end

/-! Quasigroups: the program's pairs, units and associativity. -/
section
open Go.RowKit Go.Shelf
set_option linter.unusedVariables false

/-- What a function on pairs answers, reading what lies below B. -/
def PairOk (w : World) (B : Nat) (s : Value) (n : Nat) (P : Nat → Nat → Bool) : Prop :=
  ∃ fn fs cs, s = .func (.func fn) fs cs ∧ (∀ args W, (callFunc fn args).run Tryd.prog W = .ok (.enter fn args) W) ∧ ∀ (W : World) (x y : Nat), Below B w W → x < n → y < n → Calls Tryd.prog fn (fs ++ (#[.int .i64 x, .int .i64 y] ++ cs)) W fun e W' => e = .returned (.bool (P x y)) ∧ Below W.heap.size W W'

set_option maxRecDepth 100000 in
set_option maxHeartbeats 4000000 in
theorem iforPairs (n : Nat) (hn : n ≤ 10) (w : World) (F : Nat → Nat → Int) (s : Value) (P : Nat → Nat → Bool) (hs : PairOk w w.heap.size s n P) :
    Calls Tryd.prog 86 #[.agg (iar 101 (sqC n F)), s] w fun e w' => e = .returned (.bool (allP n P)) ∧ Below w.heap.size w w' := by
  obtain ⟨fn, fs, cs, rfl, hcf, hc⟩ := hs
  have HS := Lib.hid hc
  have NO : Hid (∀ x y, x < n → y < n → P x y = false → allP n P = false) := fun x y hx hy h => allP_false hx hy h
  have YES : Hid ((∀ x y, x < n → y < n → P x y = true) → allP n P = true) := allP_true
  obtain ⟨V, hV⟩ : ∃ V, allP n P = V := ⟨_, rfl⟩
  rw [hV] at NO YES ⊢
  obtain ⟨b, hb⟩ : ∃ b, w.heap.size = b := ⟨_, rfl⟩
  have b1 : Below b w (w.alloc (.cells (iar 101 (sqC n F)) 68)) := (Below.refl _ _).alloc (by omega) _
  have A1 : SqAt (w.alloc (.cells (iar 101 (sqC n F)) 68)) b n F := by unfold SqAt Ia; rw [← hb]; exact heap_alloc_new _ _
  obtain ⟨w1, hw1⟩ : ∃ w1, w.alloc (.cells (iar 101 (sqC n F)) 68) = w1 := ⟨_, rfl⟩
  rw [hw1] at b1 A1
  have or1 := SqAt.order A1
  have HA := Lib.hid A1
  have HB := Lib.hid b1
  rw [hb] at HS ⊢
  clear hc hV A1 b1
  go_enter Tryd.func86, Tryd.ntmps86
  go_wp2
  clear or1 hw1 hb
  go_loopw [9] (fun i wr => ∃ x : Nat, x ≤ n ∧ i = .int .i64 x ∧ Hid (∀ a c, a < x → c < n → P a c = true) ∧ Hid (SqAt wr b n F) ∧ Hid (Below b w wr)) (fun i _ => n - (intOf i).toNat)
  case atStart => exact ⟨0, by omega, rfl, fun a c h => by omega, HA, HB⟩
  case round =>
    obtain ⟨x, hx, rfl, hP, hA, hBl⟩ := hrel
    by_cases c : x < n
    · have k1 : decide (x < n) = true := by simpa using c
      have k1' : decide ((x : Int) < (n : Int)) = true := decide_eq_true (by omega)
      have w3 := IntWalk.i64_in ((x : Int) + 1) (by omega)
      obtain ⟨wq, rfl⟩ : ∃ wq : World, wq = wr := ⟨_, rfl⟩
      have orq := SqAt.order hA.out
      go_wp2
      clear orq
      go_loopw [14] (fun i wr => ∃ y : Nat, y ≤ n ∧ i = .int .i64 y ∧ Hid (∀ c, c < y → P x c = true) ∧ Hid (SqAt wr b n F) ∧ Hid (Below b w wr)) (fun i _ => n - (intOf i).toNat)
      case atStart => exact ⟨0, by omega, rfl, fun c h => by omega, hA, hBl⟩
      case round =>
        obtain ⟨y, hy, rfl, hP2, hA2, hBl2⟩ := hrel
        by_cases c2 : y < n
        · have k2 : decide (y < n) = true := by simpa using c2
          have k2' : decide ((y : Int) < (n : Int)) = true := decide_eq_true (by omega)
          have w4 := IntWalk.i64_in ((y : Int) + 1) (by omega)
          have HC := Lib.hid (HS.out wr x y hBl2.out c c2)
          have lt := Ia.lt hA2.out
          cases hz : P x y with
          | true =>
            have P3 : Hid (∀ c, c < y + 1 → P x c = true) := fun k hk => by
              by_cases e : k = y
              · rw [e]; exact hz
              · exact hP2.out k (by omega)
            rw [hz] at HC
            clear hz
            go_wp2_with fail
            refine HC.out.mono ?_
            rintro e w5 ⟨rfl, b5⟩
            have A5 := Lib.hid (SqAt.below hA2.out b5 lt)
            have B5 : Hid (Below b w w5) := hBl2.out.trans (b5.mono (by omega))
            clear b5
            go_wp2
            go_roundw
            case rel => exact ⟨y + 1, by omega, by go_num, P3, A5, B5⟩
            case measure => simp [intOf]; omega
          | false =>
            have V2 := Lib.hid (NO.out x y c c2 hz)
            rw [hz] at HC
            clear hz
            go_wp2_with fail
            refine HC.out.mono ?_
            rintro e w5 ⟨rfl, b5⟩
            have B5 : Hid (Below b w w5) := hBl2.out.trans (b5.mono (by omega))
            clear b5
            go_wp2
            go_ret
            exact ⟨by rw [V2.out]; rfl, B5.out⟩
        · have k2 : decide (y < n) = false := by simpa using c2
          have k2' : decide ((y : Int) < (n : Int)) = false := decide_eq_false (by omega)
          obtain rfl : y = n := by omega
          have P3 : Hid (∀ a c, a < x + 1 → c < y → P a c = true) := fun a k ha hk => by
            by_cases e : a = x
            · rw [e]; exact hP2.out k hk
            · exact hP.out a k (by omega) hk
          go_wp2
          go_roundw
          case rel => exact ⟨x + 1, by omega, by go_num, P3, hA2, hBl2⟩
          case measure => simp [intOf]; omega
    · have k1 : decide (x < n) = false := by simpa using c
      have k1' : decide ((x : Int) < (n : Int)) = false := decide_eq_false (by omega)
      obtain rfl : x = n := by omega
      have V2 := Lib.hid (YES.out hP.out)
      go_wp2
      go_ret
      exact ⟨by rw [V2.out]; rfl, hBl.out⟩

end

/-! Quasigroups: the model's units and associativity. -/
section
open Go.RowKit Go.Shelf
set_option linter.unusedVariables false

theorem RowsAt.look2 {w : World} {v : Value} {xss : List (List Int)} {n : Nat} (h : RowsAt w v xss) (hn : xss.length = n) (hr : ∀ x, x < n → (xss.getD x []).length = n) (h1 : 1 ≤ n) :
    ∃ g off c, v = .slice (some ⟨g, off, none⟩) n c ∧ ∀ W, Below w.heap.size w W → ∀ x, x < n → ∃ g2 off2 c2, W.cell? ⟨g, off + x, none⟩ = some (.slice (some ⟨g2, off2, none⟩) n c2) ∧ ∀ y, y < n → W.cell? ⟨g2, off2 + y, none⟩ = some (.int .i64 (cellF xss x y)) := by
  obtain ⟨a, c, e, K⟩ := h.look hn hr
  obtain ⟨g, off, _, _, _, e1, -, -⟩ := K w (Below.refl _ _) 0 0 (by omega) (by omega)
  subst e1
  refine ⟨g, off, c, e, fun W hb x hx => ?_⟩
  obtain ⟨g', off', g2, off2, c2, e2, m1, m2⟩ := K W hb x 0 hx (by omega)
  simp only [Option.some.injEq, Addr.mk.injEq] at e2
  obtain ⟨rfl, rfl, -⟩ := e2
  refine ⟨g2, off2, c2, m1, fun y hy => ?_⟩
  obtain ⟨g'', off'', g3, off3, c3, e3, m3, m4⟩ := K W hb x y hx hy
  simp only [Option.some.injEq, Addr.mk.injEq] at e3
  obtain ⟨rfl, rfl, -⟩ := e3
  rw [m1] at m3
  simp only [Option.some.injEq, Value.slice.injEq, Addr.mk.injEq] at m3
  obtain ⟨⟨rfl, rfl, -⟩, -, rfl⟩ := m3
  exact m4

set_option maxRecDepth 100000 in
set_option maxHeartbeats 4000000 in
theorem sUnit_true (w : World) (v : Value) (xss : List (List Int)) (n : Nat) (hn : xss.length = n) (h10 : n ≤ 10) (hr : ∀ x, x < n → (xss.getD x []).length = n) (hv : RowsAt w v xss) (e : Nat) (he : e < n) :
    Calls Tryd.prog 108 #[v, .int .i64 e, .bool true] w fun r w' => r = .returned (.bool (lftB n (cellF xss) e)) ∧ w' = w := by
  obtain ⟨g, off, c, rfl, K⟩ := hv.look2 hn hr (by omega)
  have HK := Lib.hid (fun x hx => K w (Below.refl _ _) x hx)
  have NO : Hid (∀ x, x < n → (cellF xss e x == ((x : Nat) : Int)) = false → lftB n (cellF xss) e = false) := fun x hx h => allN_false hx h
  have YES : Hid ((∀ x, x < n → (cellF xss e x == ((x : Nat) : Int)) = true) → lftB n (cellF xss) e = true) := fun h => allN_true h
  obtain ⟨V, hV⟩ : ∃ V, lftB n (cellF xss) e = V := ⟨_, rfl⟩
  rw [hV] at NO YES ⊢
  have e0 : (0 : Int) ≤ (e : Int) := by omega
  have e1 : (e : Int) < (n : Int) := by omega
  clear hv K hV hr hn
  go_enter Tryd.func108, Tryd.ntmps108
  go_wp2
  go_loop [7] (fun i => ∃ x : Nat, x ≤ n ∧ i = .int .i64 x ∧ Hid (∀ x', x' < x → (cellF xss e x' == ((x' : Nat) : Int)) = true)) (fun i => n - (intOf i).toNat)
  case atStart => exact ⟨0, by omega, rfl, fun k h => by omega⟩
  case round =>
    obtain ⟨x, hx, rfl, hP⟩ := hrel
    by_cases c1 : x < n
    · have k1 : decide (x < n) = true := by simpa using c1
      have k1' : decide ((x : Int) < (n : Int)) = true := decide_eq_true (by omega)
      have w3 := IntWalk.i64_in ((x : Int) + 1) (by omega)
      have x0 : (0 : Int) ≤ (x : Int) := by omega
      have x1 : (x : Int) < (n : Int) := by omega
      obtain ⟨g2, off2, c2, m1, m2⟩ := HK.out e (by omega)
      have m3 := m2 x (by omega)
      have NX := Lib.hid (NO.out x c1)
      obtain ⟨u, hu⟩ : ∃ u, cellF xss e x = u := ⟨_, rfl⟩
      rw [hu] at m3 NX
      clear m2
      by_cases q : u = ((x : Nat) : Int)
      · have t : (u != ((x : Nat) : Int)) = false := by simp [q]
        have P3 : Hid (∀ x', x' < x + 1 → (cellF xss e x' == ((x' : Nat) : Int)) = true) := fun k hk => by
          by_cases e2 : k = x
          · rw [e2, hu]; simpa using q
          · exact hP.out k (by omega)
        clear q hu
        go_wp2
        go_round
        case rel => exact ⟨x + 1, by omega, by go_num, P3⟩
        case measure => simp [intOf]; omega
      · have t : (u != ((x : Nat) : Int)) = true := by simpa using q
        have V2 := Lib.hid (NX.out (by simpa using q))
        clear q hu
        go_wp2
        go_ret
        exact ⟨by rw [V2.out]; rfl, rfl⟩
    · have k1 : decide (x < n) = false := by simpa using c1
      have k1' : decide ((x : Int) < (n : Int)) = false := decide_eq_false (by omega)
      obtain rfl : x = n := by omega
      have V2 := Lib.hid (YES.out hP.out)
      go_wp2
      go_ret
      exact ⟨by rw [V2.out]; rfl, rfl⟩

set_option maxRecDepth 100000 in
set_option maxHeartbeats 4000000 in
theorem sUnit_false (w : World) (v : Value) (xss : List (List Int)) (n : Nat) (hn : xss.length = n) (h10 : n ≤ 10) (hr : ∀ x, x < n → (xss.getD x []).length = n) (hv : RowsAt w v xss) (e : Nat) (he : e < n) :
    Calls Tryd.prog 108 #[v, .int .i64 e, .bool false] w fun r w' => r = .returned (.bool (rgtB n (cellF xss) e)) ∧ w' = w := by
  obtain ⟨g, off, c, rfl, K⟩ := hv.look2 hn hr (by omega)
  have HK := Lib.hid (fun x hx => K w (Below.refl _ _) x hx)
  have NO : Hid (∀ x, x < n → (cellF xss x e == ((x : Nat) : Int)) = false → rgtB n (cellF xss) e = false) := fun x hx h => allN_false hx h
  have YES : Hid ((∀ x, x < n → (cellF xss x e == ((x : Nat) : Int)) = true) → rgtB n (cellF xss) e = true) := fun h => allN_true h
  obtain ⟨V, hV⟩ : ∃ V, rgtB n (cellF xss) e = V := ⟨_, rfl⟩
  rw [hV] at NO YES ⊢
  have e0 : (0 : Int) ≤ (e : Int) := by omega
  have e1 : (e : Int) < (n : Int) := by omega
  clear hv K hV hr hn
  go_enter Tryd.func108, Tryd.ntmps108
  go_wp2
  go_loop [7] (fun i => ∃ x : Nat, x ≤ n ∧ i = .int .i64 x ∧ Hid (∀ x', x' < x → (cellF xss x' e == ((x' : Nat) : Int)) = true)) (fun i => n - (intOf i).toNat)
  case atStart => exact ⟨0, by omega, rfl, fun k h => by omega⟩
  case round =>
    obtain ⟨x, hx, rfl, hP⟩ := hrel
    by_cases c1 : x < n
    · have k1 : decide (x < n) = true := by simpa using c1
      have k1' : decide ((x : Int) < (n : Int)) = true := decide_eq_true (by omega)
      have w3 := IntWalk.i64_in ((x : Int) + 1) (by omega)
      have x0 : (0 : Int) ≤ (x : Int) := by omega
      have x1 : (x : Int) < (n : Int) := by omega
      obtain ⟨g2, off2, c2, m1, m2⟩ := HK.out x (by omega)
      have m3 := m2 e (by omega)
      have NX := Lib.hid (NO.out x c1)
      obtain ⟨u, hu⟩ : ∃ u, cellF xss x e = u := ⟨_, rfl⟩
      rw [hu] at m3 NX
      clear m2
      by_cases q : u = ((x : Nat) : Int)
      · have t : (u != ((x : Nat) : Int)) = false := by simp [q]
        have P3 : Hid (∀ x', x' < x + 1 → (cellF xss x' e == ((x' : Nat) : Int)) = true) := fun k hk => by
          by_cases e2 : k = x
          · rw [e2, hu]; simpa using q
          · exact hP.out k (by omega)
        clear q hu
        go_wp2
        go_round
        case rel => exact ⟨x + 1, by omega, by go_num, P3⟩
        case measure => simp [intOf]; omega
      · have t : (u != ((x : Nat) : Int)) = true := by simpa using q
        have V2 := Lib.hid (NX.out (by simpa using q))
        clear q hu
        go_wp2
        go_ret
        exact ⟨by rw [V2.out]; rfl, rfl⟩
    · have k1 : decide (x < n) = false := by simpa using c1
      have k1' : decide ((x : Int) < (n : Int)) = false := decide_eq_false (by omega)
      obtain rfl : x = n := by omega
      have V2 := Lib.hid (YES.out hP.out)
      go_wp2
      go_ret
      exact ⟨by rw [V2.out]; rfl, rfl⟩

set_option maxRecDepth 100000 in
set_option maxHeartbeats 8000000 in
theorem sAssoc (w : World) (v : Value) (xss : List (List Int)) (n : Nat) (hn : xss.length = n) (h1 : 1 ≤ n) (h10 : n ≤ 10) (hr : ∀ x, x < n → (xss.getD x []).length = n) (hv : RowsAt w v xss) (IQ : InSq n (cellF xss)) :
    Calls Tryd.prog 77 #[v] w fun r w' => r = .returned (.bool (assB n (cellF xss))) ∧ Below w.heap.size w w' := by
  obtain ⟨g, off, c, rfl, K⟩ := hv.look2 hn hr h1
  have HK := Lib.hid K
  obtain ⟨F, hF⟩ : ∃ F, cellF xss = F := ⟨_, rfl⟩
  rw [hF] at HK IQ ⊢
  have HQ := Lib.hid IQ
  have NO : Hid (∀ x y z, x < n → y < n → z < n → as3 F x y z = false → assB n F = false) := fun x y z hx hy hz h => assB_false hx hy hz h
  have YES : Hid ((∀ x y z, x < n → y < n → z < n → as3 F x y z = true) → assB n F = true) := fun h => assB_true h
  have AS : Hid (∀ x y z, as3 F x y z = (F (F x y).toNat z == F x (F y z).toNat)) := fun x y z => rfl
  obtain ⟨V, hV⟩ : ∃ V, assB n F = V := ⟨_, rfl⟩
  rw [hV] at NO YES ⊢
  clear hv K hV hr hn hF IQ
  go_enter Tryd.func77, Tryd.ntmps77
  go_wp2
  go_loopw [4] (fun i wr => ∃ x : Nat, x ≤ n ∧ i = .int .i64 x ∧ Hid (∀ a b c, a < x → b < n → c < n → as3 F a b c = true) ∧ Hid (Below w.heap.size w wr)) (fun i _ => n - (intOf i).toNat)
  case atStart => exact ⟨0, by omega, rfl, fun a b c h => by omega, Below.refl _ _⟩
  case round =>
    obtain ⟨x, hx, rfl, hP, hBl⟩ := hrel
    by_cases cx : x < n
    · have k1 : decide (x < n) = true := by simpa using cx
      have k1' : decide ((x : Int) < (n : Int)) = true := decide_eq_true (by omega)
      have wx := IntWalk.i64_in ((x : Int) + 1) (by omega)
      have x0 : (0 : Int) ≤ (x : Int) := by omega
      have x1 : (x : Int) < (n : Int) := by omega
      obtain ⟨wq, rfl⟩ : ∃ wq : World, wq = wr := ⟨_, rfl⟩
      go_wp2
      go_loopw [5] (fun i wr => ∃ y : Nat, y ≤ n ∧ i = .int .i64 y ∧ Hid (∀ b c, b < y → c < n → as3 F x b c = true) ∧ Hid (Below w.heap.size w wr)) (fun i _ => n - (intOf i).toNat)
      case atStart => exact ⟨0, by omega, rfl, fun b c h => by omega, hBl⟩
      case round =>
        obtain ⟨y, hy, rfl, hP2, hBl2⟩ := hrel
        by_cases cy : y < n
        · have k2 : decide (y < n) = true := by simpa using cy
          have k2' : decide ((y : Int) < (n : Int)) = true := decide_eq_true (by omega)
          have wy := IntWalk.i64_in ((y : Int) + 1) (by omega)
          have y0 : (0 : Int) ≤ (y : Int) := by omega
          have y1 : (y : Int) < (n : Int) := by omega
          obtain ⟨wp, rfl⟩ : ∃ wp : World, wp = wr := ⟨_, rfl⟩
          go_wp2
          go_loopw [6] (fun i wr => ∃ z : Nat, z ≤ n ∧ i = .int .i64 z ∧ Hid (∀ c, c < z → as3 F x y c = true) ∧ Hid (Below w.heap.size w wr)) (fun i _ => n - (intOf i).toNat)
          case atStart => exact ⟨0, by omega, rfl, fun c h => by omega, hBl2⟩
          case round =>
            obtain ⟨z, hz, rfl, hP3, hBl3⟩ := hrel
            by_cases cz : z < n
            · have k3 : decide (z < n) = true := by simpa using cz
              have k3' : decide ((z : Int) < (n : Int)) = true := decide_eq_true (by omega)
              have wz := IntWalk.i64_in ((z : Int) + 1) (by omega)
              have z0 : (0 : Int) ≤ (z : Int) := by omega
              have z1 : (z : Int) < (n : Int) := by omega
              have DB : Hid (Below w.heap.size w wr.drew) := hBl3.out.drew
              obtain ⟨wd, hwd⟩ : ∃ wd, wr.drew = wd := ⟨_, rfl⟩
              have DW : Below w.heap.size w wd := by rw [← hwd]; exact hBl3.out.drew
              have i1 := HQ.out x y cx cy
              have i2 := HQ.out y z cy cz
              have ay := AS.out x y z
              obtain ⟨p, hp⟩ : ∃ p : Nat, F x y = p := ⟨(F x y).toNat, by omega⟩
              obtain ⟨q, hq⟩ : ∃ q : Nat, F y z = q := ⟨(F y z).toNat, by omega⟩
              have p1 : (p : Int) < (n : Int) := by omega
              have q1 : (q : Int) < (n : Int) := by omega
              have p0 : (0 : Int) ≤ (p : Int) := by omega
              have q0 : (0 : Int) ≤ (q : Int) := by omega
              obtain ⟨gx, ox, kx, hx1, hx2⟩ := HK.out wd DW x cx
              obtain ⟨gy, oy, ky, hy1, hy2⟩ := HK.out wd DW y cy
              obtain ⟨gp, op, kp, hp1, hp2⟩ := HK.out wd DW p (by omega)
              have m1 := hx2 y cy
              have m2 := hp2 z cz
              have m3 := hy2 z cz
              have m4 := hx2 q (by omega)
              rw [hp] at m1 ay
              rw [hq] at m3 ay
              rw [Int.toNat_natCast, Int.toNat_natCast] at ay
              obtain ⟨s, hs⟩ : ∃ s, F p z = s := ⟨_, rfl⟩
              obtain ⟨t, ht⟩ : ∃ t, F x q = t := ⟨_, rfl⟩
              rw [hs] at m2 ay
              rw [ht] at m4 ay
              have HY := Lib.hid ay
              clear i1 i2 ay hp hq hs ht hx2 hy2 hp2 DW
              by_cases e : s = t
              · have tt : (s != t) = false := by simp [e]
                have P4 : Hid (∀ c, c < z + 1 → as3 F x y c = true) := fun k hk => by
                  by_cases e2 : k = z
                  · rw [e2, HY.out]; simpa using e
                  · exact hP3.out k (by omega)
                clear e
                go_wp2
                refine wp_region_still_lit (by kernel_rfl) (by kernel_rfl) ?_
                change wpStill _ _ wr.drew _ _ _
                rw [hwd]
                repeat still_step
                refine wpStill_nil ?_
                clear hwd
                go_wp2
                go_roundw
                case rel => exact ⟨z + 1, by omega, by go_num, P4, DB⟩
                case measure => simp [intOf]; omega
              · have tt : (s != t) = true := by simpa using e
                have V2 := Lib.hid (NO.out x y z cx cy cz (by rw [HY.out]; simpa using e))
                clear e
                go_wp2
                refine wp_region_still_lit (by kernel_rfl) (by kernel_rfl) ?_
                change wpStill _ _ wr.drew _ _ _
                rw [hwd]
                repeat still_step
                refine wpStill_nil ?_
                clear hwd
                go_wp2
                go_ret
                exact ⟨by rw [V2.out]; rfl, DB.out⟩
            · have k3 : decide (z < n) = false := by simpa using cz
              have k3' : decide ((z : Int) < (n : Int)) = false := decide_eq_false (by omega)
              obtain rfl : z = n := by omega
              have P3 : Hid (∀ b c, b < y + 1 → c < z → as3 F x b c = true) := fun b c hb hc => by
                by_cases e : b = y
                · rw [e]; exact hP3.out c hc
                · exact hP2.out b c (by omega) hc
              go_wp2
              go_roundw
              case rel => exact ⟨y + 1, by omega, by go_num, P3, hBl3⟩
              case measure => simp [intOf]; omega
        · have k2 : decide (y < n) = false := by simpa using cy
          have k2' : decide ((y : Int) < (n : Int)) = false := decide_eq_false (by omega)
          obtain rfl : y = n := by omega
          have P3 : Hid (∀ a b c, a < x + 1 → b < y → c < y → as3 F a b c = true) := fun a b c ha hb hc => by
            by_cases e : a = x
            · rw [e]; exact hP2.out b c hb hc
            · exact hP.out a b c (by omega) hb hc
          go_wp2
          go_roundw
          case rel => exact ⟨x + 1, by omega, by go_num, P3, hBl2⟩
          case measure => simp [intOf]; omega
    · have k1 : decide (x < n) = false := by simpa using cx
      have k1' : decide ((x : Int) < (n : Int)) = false := decide_eq_false (by omega)
      obtain rfl : x = n := by omega
      have V2 := Lib.hid (YES.out hP.out)
      go_wp2
      go_ret
      exact ⟨by rw [V2.out]; rfl, hBl.out⟩
end

/-! ValidSquare: both sides. -/
section
open Go.RowKit
set_option linter.unusedVariables false

noncomputable def ValidSquare_0 (xss : List (List Int)) : Bool := sqB xss

end

/-! Identities of quasigroups: the numbers. -/
section
open Go.RowKit
set_option linter.unusedVariables false

def isI (f : Nat → Nat → Int) (x y : Nat) : Bool := f x x == ((x : Nat) : Int)
def isU (f : Nat → Nat → Int) (x y : Nat) : Bool := f x x == f y y
def isC (f : Nat → Nat → Int) (x y : Nat) : Bool := f x y == f y x
def isS (f : Nat → Nat → Int) (x y : Nat) : Bool := f x (f y x).toNat == ((y : Nat) : Int)
/-- Whether a square has an identity. -/
def idB (n : Nat) (f : Nat → Nat → Int) (k : Nat) : Bool :=
  if k = 1 then allP n (isI f) else if k = 2 then allP n (isU f) else if k = 3 then allP n (isC f) else if k = 4 then (fstN n (lftB n f)).isSome
  else if k = 5 then (fstN n (rgtB n f)).isSome else if k = 6 then assB n f else if k = 7 then allP n (isS f) else if k = 8 then allP n (isC f) && allP n (isS f) else false
theorem id1 (n : Nat) (f : Nat → Nat → Int) : idB n f 1 = allP n (isI f) := rfl
theorem id2 (n : Nat) (f : Nat → Nat → Int) : idB n f 2 = allP n (isU f) := rfl
theorem id3 (n : Nat) (f : Nat → Nat → Int) : idB n f 3 = allP n (isC f) := rfl
theorem id4 (n : Nat) (f : Nat → Nat → Int) : idB n f 4 = (fstN n (lftB n f)).isSome := rfl
theorem id5 (n : Nat) (f : Nat → Nat → Int) : idB n f 5 = (fstN n (rgtB n f)).isSome := rfl
theorem id6 (n : Nat) (f : Nat → Nat → Int) : idB n f 6 = assB n f := rfl
theorem id7 (n : Nat) (f : Nat → Nat → Int) : idB n f 7 = allP n (isS f) := rfl
theorem id8 (n : Nat) (f : Nat → Nat → Int) : idB n f 8 = (allP n (isC f) && allP n (isS f)) := rfl
theorem diag1 (n : Nat) (f : Nat → Nat → Int) : allP n (isI f) = allN n (fun x => f x x == ((x : Nat) : Int)) := by
  cases e : allN n (fun x => f x x == ((x : Nat) : Int)) with
  | true => exact allP_true fun x y hx hy => allN_at e x hx
  | false =>
    cases e2 : allP n (isI f) with
    | false => rfl
    | true =>
      have : allN n (fun x => f x x == ((x : Nat) : Int)) = true := allN_true fun x hx => allP_at e2 x x hx hx
      rw [this] at e; cases e
theorem diag2 (n : Nat) (f : Nat → Nat → Int) (h : 1 ≤ n) : allP n (isU f) = allN n (fun x => f x x == f 0 0) := by
  cases e : allN n (fun x => f x x == f 0 0) with
  | true =>
    refine allP_true fun x y hx hy => ?_
    have a := allN_at e x hx
    have b := allN_at e y hy
    simp only [beq_iff_eq] at a b
    unfold isU
    rw [a, b]; simp
  | false =>
    cases e2 : allP n (isU f) with
    | false => rfl
    | true =>
      have : allN n (fun x => f x x == f 0 0) = true := allN_true fun x hx => allP_at e2 x 0 hx (by omega)
      rw [this] at e; cases e
theorem isS_congr {n : Nat} {f g : Nat → Nat → Int} (hf : InSq n f) (h : ∀ x y, x < n → y < n → f x y = g x y) : allP n (isS f) = allP n (isS g) :=
  allP_congr fun x y hx hy => by
    have e := hf y x hy hx
    unfold isS
    rw [← h y x hy hx, ← h x (f y x).toNat hx (by omega)]
theorem id_congr {n : Nat} {f g : Nat → Nat → Int} (hf : InSq n f) (h : ∀ x y, x < n → y < n → f x y = g x y) (k : Nat) : idB n f k = idB n g k := by
  have e1 : allP n (isI f) = allP n (isI g) := allP_congr fun x y hx hy => by unfold isI; rw [h x x hx hx]
  have e2 : allP n (isU f) = allP n (isU g) := allP_congr fun x y hx hy => by unfold isU; rw [h x x hx hx, h y y hy hy]
  have e3 : allP n (isC f) = allP n (isC g) := allP_congr fun x y hx hy => by unfold isC; rw [h x y hx hy, h y x hy hx]
  have e4 : fstN n (lftB n f) = fstN n (lftB n g) := fstN_congr fun e he => lft_congr h he
  have e5 : fstN n (rgtB n f) = fstN n (rgtB n g) := fstN_congr fun e he => rgt_congr h he
  have e6 : assB n f = assB n g := assB_congr hf h
  have e7 := isS_congr hf h
  unfold idB
  rw [e1, e2, e3, e4, e5, e6, e7]
def idsL (n : Nat) (f : Nat → Nat → Int) (k : Nat) : List Int := fls k (idB n f)
theorem ids_one (n : Nat) (f : Nat → Nat → Int) : idsL n f 1 = [] := by
  unfold idsL; rw [fls_succ]; rfl
theorem ids_yes {n : Nat} {f : Nat → Nat → Int} {k : Nat} (h : idB n f k = true) : idsL n f k ++ [(k : Int)] = idsL n f (k + 1) := by
  unfold idsL; rw [fls_succ, if_pos h]
theorem ids_no {n : Nat} {f : Nat → Nat → Int} {k : Nat} (h : idB n f k = false) : idsL n f k = idsL n f (k + 1) := by
  unfold idsL; rw [fls_succ, h]; simp
noncomputable def IdentitiesOf_0 (xss : List (List Int)) : List Int := if sqB xss = true then idsL xss.length (cellF xss) 9 else []
noncomputable def IdentitiesOf_1 (xss : List (List Int)) : Int := if sqB xss = true then 0 else 1
theorem lenIdentitiesOf_0 (xss : List (List Int)) (hx : SmallLL xss) : (IdentitiesOf_0 xss).length ≤ 2000000 := by
  unfold IdentitiesOf_0
  split
  · have := fls_len 9 (idB xss.length (cellF xss)); unfold idsL; omega
  · simp
end

/-! Identities of quasigroups: the program's closures and rules. -/
section
open Go.RowKit Go.Shelf
set_option linter.unusedVariables false

set_option maxRecDepth 100000 in
set_option maxHeartbeats 4000000 in
theorem iI1 (W : World) (b n : Nat) (hn : n ≤ 10) (F : Nat → Nat → Int) (hS : SqAt W b n F) (x y : Nat) (hx : x < n) (hy : y < n) :
    Calls Tryd.prog 87 #[.int .i64 x, .int .i64 y, .pointer (some ⟨b, 0, none⟩)] W fun e W' => e = .returned (.bool (isI F x y)) ∧ Below W.heap.size W W' := by
  have x0 : (0 : Int) ≤ (x : Int) := by omega
  have x1 : (x : Int) < 10 := by omega
  have m1 := Ia.cell hS (1 + x * 10 + x) (by omega)
  rw [sqC_at _ _ (by omega)] at m1
  have V : Hid (isI F x y = (F x x == ((x : Nat) : Int))) := rfl
  obtain ⟨u, hu⟩ : ∃ u, F x x = u := ⟨_, rfl⟩
  rw [hu] at m1 V
  clear hS hu
  go_enter Tryd.func87, Tryd.ntmps87
  go_wp2
  go_ret
  exact ⟨by rw [V.out]; rfl, Below.refl _ _⟩

set_option maxRecDepth 100000 in
set_option maxHeartbeats 4000000 in
theorem iC1 (W : World) (b n : Nat) (hn : n ≤ 10) (F : Nat → Nat → Int) (hS : SqAt W b n F) (x y : Nat) (hx : x < n) (hy : y < n) :
    Calls Tryd.prog 112 #[.int .i64 x, .int .i64 y, .pointer (some ⟨b, 0, none⟩)] W fun e W' => e = .returned (.bool (isC F x y)) ∧ Below W.heap.size W W' := by
  have x0 : (0 : Int) ≤ (x : Int) := by omega
  have x1 : (x : Int) < 10 := by omega
  have y0 : (0 : Int) ≤ (y : Int) := by omega
  have y1 : (y : Int) < 10 := by omega
  obtain ⟨wd, hwd⟩ : ∃ wd, W.drew = wd := ⟨_, rfl⟩
  have D1 : SqAt wd b n F := by rw [← hwd]; exact hS
  have DB : Hid (Below W.heap.size W W.drew) := (Below.refl _ _).drew
  have m1 := Ia.cell D1 (1 + x * 10 + y) (by omega)
  rw [sqC_at _ _ (by omega)] at m1
  have m2 := Ia.cell D1 (1 + y * 10 + x) (by omega)
  rw [sqC_at _ _ (by omega)] at m2
  have V : Hid (isC F x y = (F x y == F y x)) := rfl
  obtain ⟨u, hu⟩ : ∃ u, F x y = u := ⟨_, rfl⟩
  obtain ⟨v, hv⟩ : ∃ v, F y x = v := ⟨_, rfl⟩
  rw [hu] at m1 V
  rw [hv] at m2 V
  clear hS hu hv D1
  go_enter Tryd.func112, Tryd.ntmps112
  go_wp2
  refine wp_region_still_lit (by kernel_rfl) (by kernel_rfl) ?_
  change wpStill _ _ W.drew _ _ _
  rw [hwd]
  repeat still_step
  refine wpStill_nil ?_
  clear hwd
  go_wp2
  go_ret
  exact ⟨by rw [V.out]; rfl, DB.out⟩

set_option maxRecDepth 100000 in
set_option maxHeartbeats 4000000 in
theorem iS1 (W : World) (b n : Nat) (hn : n ≤ 10) (F : Nat → Nat → Int) (hS : SqAt W b n F) (IQ : InSq n F) (x y : Nat) (hx : x < n) (hy : y < n) :
    Calls Tryd.prog 113 #[.int .i64 x, .int .i64 y, .pointer (some ⟨b, 0, none⟩)] W fun e W' => e = .returned (.bool (isS F x y)) ∧ Below W.heap.size W W' := by
  have x0 : (0 : Int) ≤ (x : Int) := by omega
  have x1 : (x : Int) < 10 := by omega
  have y0 : (0 : Int) ≤ (y : Int) := by omega
  have y1 : (y : Int) < 10 := by omega
  obtain ⟨wd, hwd⟩ : ∃ wd, W.drew = wd := ⟨_, rfl⟩
  have D1 : SqAt wd b n F := by rw [← hwd]; exact hS
  have DB : Hid (Below W.heap.size W W.drew) := (Below.refl _ _).drew
  have m1 := Ia.cell D1 (1 + y * 10 + x) (by omega)
  rw [sqC_at _ _ (by omega)] at m1
  have V : Hid (isS F x y = (F x (F y x).toNat == ((y : Nat) : Int))) := rfl
  have i1 := IQ y x hy hx
  obtain ⟨p, hp⟩ : ∃ p : Nat, F y x = p := ⟨(F y x).toNat, by omega⟩
  rw [hp] at m1 V i1
  rw [Int.toNat_natCast] at V
  have m2 := Ia.cell D1 (1 + x * 10 + p) (by omega)
  rw [sqC_at _ _ (by omega)] at m2
  obtain ⟨v, hv⟩ : ∃ v, F x p = v := ⟨_, rfl⟩
  rw [hv] at m2 V
  have p0 : (0 : Int) ≤ (p : Int) := by omega
  have p1 : (p : Int) < 10 := by omega
  clear hS hp hv D1 i1 IQ
  go_enter Tryd.func113, Tryd.ntmps113
  go_wp2
  refine wp_region_still_lit (by kernel_rfl) (by kernel_rfl) ?_
  change wpStill _ _ W.drew _ _ _
  rw [hwd]
  repeat still_step
  refine wpStill_nil ?_
  clear hwd
  go_wp2
  go_ret
  exact ⟨by rw [V.out]; rfl, DB.out⟩


set_option maxRecDepth 100000 in
set_option maxHeartbeats 4000000 in
theorem iIdem (n : Nat) (hn : n ≤ 10) (w : World) (F : Nat → Nat → Int) (IQ : InSq n F) :
    Calls Tryd.prog 47 #[.agg (iar 101 (sqC n F))] w fun e w' => e = .returned (.bool (allP n (isI F))) ∧ Below w.heap.size w w' := by
  have hmf : ∀ (fn : Fn) (first cap : Array Value) (w : World), (Instr.makeFunc fn first cap).run Tryd.prog w = .ok (.func fn first cap) w := fun _ _ _ _ => rfl
  obtain ⟨b, hb⟩ : ∃ b, w.heap.size = b := ⟨_, rfl⟩
  have b1 : Below b w (w.alloc (.cells (iar 101 (sqC n F)) 68)) := (Below.refl _ _).alloc (by omega) _
  have A1 : SqAt (w.alloc (.cells (iar 101 (sqC n F)) 68)) b n F := by unfold SqAt Ia; rw [← hb]; exact heap_alloc_new _ _
  obtain ⟨w1, hw1⟩ : ∃ w1, w.alloc (.cells (iar 101 (sqC n F)) 68) = w1 := ⟨_, rfl⟩
  rw [hw1] at b1 A1
  have HF := Lib.hid (iforPairs n hn w1 F (.func (.func 87) #[] #[.pointer (some ⟨b, 0, none⟩)]) (isI F)
    ⟨_, _, _, rfl, enters_of Tryd.func87 (by kernel_rfl) rfl, fun W x y hW hx hy => iI1 W b n hn F (SqAt.below A1 hW (Ia.lt A1)) x y hx hy⟩)
  have X1 := Lib.hid A1
  have HB := Lib.hid b1
  have s1 := b1.size
  rw [hb]
  clear A1 b1
  go_enter Tryd.func47, Tryd.ntmps47
  go_wp2_with (refine wpList_load_row rfl 68 (.tmp 1) rfl _ rfl _ _ _ _ X1.out Tryd.underlying68 rfl (by rw [iar_size]; exact Tryd.infoSq) ?_)
  refine HF.out.mono ?_
  rintro e w2 ⟨rfl, b2⟩
  have B2 : Hid (Below b w w2) := HB.out.trans (b2.mono (by omega))
  clear b2
  go_wp2
  go_ret
  exact ⟨rfl, B2.out⟩

set_option maxRecDepth 100000 in
set_option maxHeartbeats 4000000 in
theorem iComm (n : Nat) (hn : n ≤ 10) (w : World) (F : Nat → Nat → Int) (IQ : InSq n F) :
    Calls Tryd.prog 88 #[.agg (iar 101 (sqC n F))] w fun e w' => e = .returned (.bool (allP n (isC F))) ∧ Below w.heap.size w w' := by
  have hmf : ∀ (fn : Fn) (first cap : Array Value) (w : World), (Instr.makeFunc fn first cap).run Tryd.prog w = .ok (.func fn first cap) w := fun _ _ _ _ => rfl
  obtain ⟨b, hb⟩ : ∃ b, w.heap.size = b := ⟨_, rfl⟩
  have b1 : Below b w (w.alloc (.cells (iar 101 (sqC n F)) 68)) := (Below.refl _ _).alloc (by omega) _
  have A1 : SqAt (w.alloc (.cells (iar 101 (sqC n F)) 68)) b n F := by unfold SqAt Ia; rw [← hb]; exact heap_alloc_new _ _
  obtain ⟨w1, hw1⟩ : ∃ w1, w.alloc (.cells (iar 101 (sqC n F)) 68) = w1 := ⟨_, rfl⟩
  rw [hw1] at b1 A1
  have HF := Lib.hid (iforPairs n hn w1 F (.func (.func 112) #[] #[.pointer (some ⟨b, 0, none⟩)]) (isC F)
    ⟨_, _, _, rfl, enters_of Tryd.func112 (by kernel_rfl) rfl, fun W x y hW hx hy => iC1 W b n hn F (SqAt.below A1 hW (Ia.lt A1)) x y hx hy⟩)
  have X1 := Lib.hid A1
  have HB := Lib.hid b1
  have s1 := b1.size
  rw [hb]
  clear A1 b1
  go_enter Tryd.func88, Tryd.ntmps88
  go_wp2_with (refine wpList_load_row rfl 68 (.tmp 1) rfl _ rfl _ _ _ _ X1.out Tryd.underlying68 rfl (by rw [iar_size]; exact Tryd.infoSq) ?_)
  refine HF.out.mono ?_
  rintro e w2 ⟨rfl, b2⟩
  have B2 : Hid (Below b w w2) := HB.out.trans (b2.mono (by omega))
  clear b2
  go_wp2
  go_ret
  exact ⟨rfl, B2.out⟩

set_option maxRecDepth 100000 in
set_option maxHeartbeats 4000000 in
theorem iSemi (n : Nat) (hn : n ≤ 10) (w : World) (F : Nat → Nat → Int) (IQ : InSq n F) :
    Calls Tryd.prog 89 #[.agg (iar 101 (sqC n F))] w fun e w' => e = .returned (.bool (allP n (isS F))) ∧ Below w.heap.size w w' := by
  have hmf : ∀ (fn : Fn) (first cap : Array Value) (w : World), (Instr.makeFunc fn first cap).run Tryd.prog w = .ok (.func fn first cap) w := fun _ _ _ _ => rfl
  obtain ⟨b, hb⟩ : ∃ b, w.heap.size = b := ⟨_, rfl⟩
  have b1 : Below b w (w.alloc (.cells (iar 101 (sqC n F)) 68)) := (Below.refl _ _).alloc (by omega) _
  have A1 : SqAt (w.alloc (.cells (iar 101 (sqC n F)) 68)) b n F := by unfold SqAt Ia; rw [← hb]; exact heap_alloc_new _ _
  obtain ⟨w1, hw1⟩ : ∃ w1, w.alloc (.cells (iar 101 (sqC n F)) 68) = w1 := ⟨_, rfl⟩
  rw [hw1] at b1 A1
  have HF := Lib.hid (iforPairs n hn w1 F (.func (.func 113) #[] #[.pointer (some ⟨b, 0, none⟩)]) (isS F)
    ⟨_, _, _, rfl, enters_of Tryd.func113 (by kernel_rfl) rfl, fun W x y hW hx hy => iS1 W b n hn F (SqAt.below A1 hW (Ia.lt A1)) IQ x y hx hy⟩)
  have X1 := Lib.hid A1
  have HB := Lib.hid b1
  have s1 := b1.size
  rw [hb]
  clear A1 b1
  go_enter Tryd.func89, Tryd.ntmps89
  go_wp2_with (refine wpList_load_row rfl 68 (.tmp 1) rfl _ rfl _ _ _ _ X1.out Tryd.underlying68 rfl (by rw [iar_size]; exact Tryd.infoSq) ?_)
  refine HF.out.mono ?_
  rintro e w2 ⟨rfl, b2⟩
  have B2 : Hid (Below b w w2) := HB.out.trans (b2.mono (by omega))
  clear b2
  go_wp2
  go_ret
  exact ⟨rfl, B2.out⟩

set_option maxRecDepth 100000 in
set_option maxHeartbeats 4000000 in
theorem iSymm (n : Nat) (hn : n ≤ 10) (w : World) (F : Nat → Nat → Int) (IQ : InSq n F) :
    Calls Tryd.prog 48 #[.agg (iar 101 (sqC n F))] w fun e w' => e = .returned (.bool (allP n (isC F) && allP n (isS F))) ∧ Below w.heap.size w w' := by
  obtain ⟨b, hb⟩ : ∃ b, w.heap.size = b := ⟨_, rfl⟩
  have b1 : Below b w (w.alloc (.cells (iar 101 (sqC n F)) 68)) := (Below.refl _ _).alloc (by omega) _
  have A1 : SqAt (w.alloc (.cells (iar 101 (sqC n F)) 68)) b n F := by unfold SqAt Ia; rw [← hb]; exact heap_alloc_new _ _
  obtain ⟨w1, hw1⟩ : ∃ w1, w.alloc (.cells (iar 101 (sqC n F)) 68) = w1 := ⟨_, rfl⟩
  rw [hw1] at b1 A1
  have HC := Lib.hid (iComm n hn w1 F IQ)
  have HS := Lib.hid (fun W => iSemi n hn W F IQ)
  obtain ⟨c, hc⟩ : ∃ c, allP n (isC F) = c := ⟨_, rfl⟩
  obtain ⟨s, hs⟩ : ∃ s, allP n (isS F) = s := ⟨_, rfl⟩
  rw [hc] at HC ⊢
  simp only [hs] at HS ⊢
  have X1 := Lib.hid A1
  have HB := Lib.hid b1
  have s1 := b1.size
  have ltb : b < w1.heap.size := Ia.lt A1
  rw [hb]
  clear A1 b1 hc hs
  cases c with
  | false =>
    rw [Bool.false_and]
    go_enter Tryd.func48, Tryd.ntmps48
    go_wp2_with (refine wpList_load_row rfl 68 (.tmp 1) rfl _ rfl _ _ _ _ X1.out Tryd.underlying68 rfl (by rw [iar_size]; exact Tryd.infoSq) ?_)
    refine HC.out.mono ?_
    rintro e w2 ⟨rfl, b2⟩
    have B2 : Hid (Below b w w2) := HB.out.trans (b2.mono (by omega))
    clear b2
    go_wp2
    go_ret
    exact ⟨rfl, B2.out⟩
  | true =>
    rw [Bool.true_and]
    go_enter Tryd.func48, Tryd.ntmps48
    go_wp2_with (refine wpList_load_row rfl 68 (.tmp 1) rfl _ rfl _ _ _ _ X1.out Tryd.underlying68 rfl (by rw [iar_size]; exact Tryd.infoSq) ?_)
    refine HC.out.mono ?_
    rintro e w2 ⟨rfl, b2⟩
    have X2 := Lib.hid (SqAt.below X1.out b2 ltb)
    have B2 : Hid (Below b w w2) := HB.out.trans (b2.mono (by omega))
    have s2 := b2.size
    clear b2
    go_wp2_with fail
    refine wp_load_row 68 (.tmp 1) rfl _ rfl _ _ _ _ X2.out Tryd.underlying68 rfl (by rw [iar_size]; exact Tryd.infoSq) ?_
    go_wp2_with fail
    refine (HS.out w2).mono ?_
    rintro e w3 ⟨rfl, b3⟩
    have B3 : Hid (Below b w w3) := B2.out.trans (b3.mono (by omega))
    clear b3
    go_wp2
    go_ret
    exact ⟨rfl, B3.out⟩

end

/-! Identities of quasigroups: the model. -/
section
open Go.RowKit Go.Shelf
set_option linter.unusedVariables false

set_option maxRecDepth 100000 in
set_option maxHeartbeats 2000000 in
theorem sPairs3 (w : World) (v : Value) (xss : List (List Int)) (n : Nat) (hn : xss.length = n) (h1 : 1 ≤ n) (h10 : n ≤ 10) (hr : ∀ x, x < n → (xss.getD x []).length = n) (hv : RowsAt w v xss) (IQ : InSq n (cellF xss)) :
    Calls Tryd.prog 78 #[v, .int .i64 3] w fun r w' => r = .returned (.bool (allP n (isC (cellF xss)))) ∧ ∃ d, w' = w.drewN d := by
  obtain ⟨g, off, c, rfl, K⟩ := hv.look2 hn hr h1
  have HK := Lib.hid (fun x hx => K w (Below.refl _ _) x hx)
  obtain ⟨F, hF⟩ : ∃ F, cellF xss = F := ⟨_, rfl⟩
  rw [hF] at HK IQ ⊢
  have HQ := Lib.hid IQ
  have NO : Hid (∀ x y, x < n → y < n → isC F x y = false → allP n (isC F) = false) := fun x y hx hy h => allP_false hx hy h
  have YES : Hid ((∀ x y, x < n → y < n → isC F x y = true) → allP n (isC F) = true) := fun h => allP_true h
  have AS : Hid (∀ x y, isC F x y = (F x y == F y x)) := fun x y => rfl
  obtain ⟨V, hV⟩ : ∃ V, allP n (isC F) = V := ⟨_, rfl⟩
  rw [hV] at NO YES ⊢
  clear hv K hV hr hn hF IQ
  go_enter Tryd.func78, Tryd.ntmps78
  go_wp2
  go_loopw [6] (fun i wr => ∃ x : Nat, x ≤ n ∧ i = .int .i64 x ∧ Hid (∀ a b, a < x → b < n → isC F a b = true) ∧ ∃ d, wr = w.drewN d) (fun i _ => n - (intOf i).toNat)
  case atStart => exact ⟨0, by omega, rfl, fun a b h => by omega, 0, rfl⟩
  case round =>
    obtain ⟨x, hx, rfl, hP, d, rfl⟩ := hrel
    by_cases cx : x < n
    · have k1 : decide (x < n) = true := by simpa using cx
      have k1' : decide ((x : Int) < (n : Int)) = true := decide_eq_true (by omega)
      have wx := IntWalk.i64_in ((x : Int) + 1) (by omega)
      have x0 : (0 : Int) ≤ (x : Int) := by omega
      have x1 : (x : Int) < (n : Int) := by omega
      go_wp2
      go_loopw [7] (fun i wr => ∃ y : Nat, y ≤ n ∧ i = .int .i64 y ∧ Hid (∀ b, b < y → isC F x b = true) ∧ ∃ d, wr = w.drewN d) (fun i _ => n - (intOf i).toNat)
      case atStart => exact ⟨0, by omega, rfl, fun b h => by omega, _, rfl⟩
      case round =>
        obtain ⟨y, hy, rfl, hP2, d2, rfl⟩ := hrel
        by_cases cy : y < n
        · have k2 : decide (y < n) = true := by simpa using cy
          have k2' : decide ((y : Int) < (n : Int)) = true := decide_eq_true (by omega)
          have wy := IntWalk.i64_in ((y : Int) + 1) (by omega)
          have y0 : (0 : Int) ≤ (y : Int) := by omega
          have y1 : (y : Int) < (n : Int) := by omega
          obtain ⟨gx, ox, kx, hx1, hx2⟩ := HK.out x cx
          obtain ⟨gy, oy, ky, hy1, hy2⟩ := HK.out y cy
          have ay := AS.out x y
          have m1 := hx2 y cy
          have m2 := hy2 x cx
          obtain ⟨s, hs⟩ : ∃ s, F x y = s := ⟨_, rfl⟩
          obtain ⟨t, ht⟩ : ∃ t, F y x = t := ⟨_, rfl⟩
          rw [hs] at m1 ay
          rw [ht] at m2 ay
          clear hs ht
          have HY := Lib.hid ay
          clear ay hx2 hy2
          by_cases e : s = t
          · have tt : (s != t) = false := by simp [e]
            have P3 : Hid (∀ b, b < y + 1 → isC F x b = true) := fun b hb => by
              by_cases e2 : b = y
              · rw [e2, HY.out]; simpa using e
              · exact hP2.out b (by omega)
            clear e
            go_wp2
            go_quiet (fail)
            go_wp2
            go_roundw
            case rel => exact ⟨y + 1, by omega, by go_num, P3, _, by first | rfl | exact World.drewN_drewN _ _ _⟩
            case measure => simp [intOf]; omega
          · have tt : (s != t) = true := by simpa using e
            have V2 := Lib.hid (NO.out x y cx cy (by rw [HY.out]; simpa using e))
            clear e
            go_wp2
            go_quiet (fail)
            go_wp2
            go_ret
            exact ⟨by rw [V2.out]; rfl, _, by first | rfl | exact World.drewN_drewN _ _ _⟩
        · have k2 : decide (y < n) = false := by simpa using cy
          have k2' : decide ((y : Int) < (n : Int)) = false := decide_eq_false (by omega)
          obtain rfl : y = n := by omega
          have P3 : Hid (∀ a b, a < x + 1 → b < y → isC F a b = true) := fun a b ha hb => by
            by_cases e : a = x
            · rw [e]; exact hP2.out b hb
            · exact hP.out a b (by omega) hb
          go_wp2
          go_roundw
          case rel => exact ⟨x + 1, by omega, by go_num, P3, _, rfl⟩
          case measure => simp [intOf]; omega
    · have k1 : decide (x < n) = false := by simpa using cx
      have k1' : decide ((x : Int) < (n : Int)) = false := decide_eq_false (by omega)
      obtain rfl : x = n := by omega
      have V2 := Lib.hid (YES.out hP.out)
      go_wp2
      go_ret
      exact ⟨by rw [V2.out]; rfl, _, rfl⟩

set_option maxRecDepth 100000 in
set_option maxHeartbeats 2000000 in
theorem sPairs7 (w : World) (v : Value) (xss : List (List Int)) (n : Nat) (hn : xss.length = n) (h1 : 1 ≤ n) (h10 : n ≤ 10) (hr : ∀ x, x < n → (xss.getD x []).length = n) (hv : RowsAt w v xss) (IQ : InSq n (cellF xss)) :
    Calls Tryd.prog 78 #[v, .int .i64 7] w fun r w' => r = .returned (.bool (allP n (isS (cellF xss)))) ∧ ∃ d, w' = w.drewN d := by
  obtain ⟨g, off, c, rfl, K⟩ := hv.look2 hn hr h1
  have HK := Lib.hid (fun x hx => K w (Below.refl _ _) x hx)
  obtain ⟨F, hF⟩ : ∃ F, cellF xss = F := ⟨_, rfl⟩
  rw [hF] at HK IQ ⊢
  have HQ := Lib.hid IQ
  have NO : Hid (∀ x y, x < n → y < n → isS F x y = false → allP n (isS F) = false) := fun x y hx hy h => allP_false hx hy h
  have YES : Hid ((∀ x y, x < n → y < n → isS F x y = true) → allP n (isS F) = true) := fun h => allP_true h
  have AS : Hid (∀ x y, isS F x y = (F x (F y x).toNat == ((y : Nat) : Int))) := fun x y => rfl
  obtain ⟨V, hV⟩ : ∃ V, allP n (isS F) = V := ⟨_, rfl⟩
  rw [hV] at NO YES ⊢
  clear hv K hV hr hn hF IQ
  go_enter Tryd.func78, Tryd.ntmps78
  go_wp2
  go_loopw [6] (fun i wr => ∃ x : Nat, x ≤ n ∧ i = .int .i64 x ∧ Hid (∀ a b, a < x → b < n → isS F a b = true) ∧ ∃ d, wr = w.drewN d) (fun i _ => n - (intOf i).toNat)
  case atStart => exact ⟨0, by omega, rfl, fun a b h => by omega, 0, rfl⟩
  case round =>
    obtain ⟨x, hx, rfl, hP, d, rfl⟩ := hrel
    by_cases cx : x < n
    · have k1 : decide (x < n) = true := by simpa using cx
      have k1' : decide ((x : Int) < (n : Int)) = true := decide_eq_true (by omega)
      have wx := IntWalk.i64_in ((x : Int) + 1) (by omega)
      have x0 : (0 : Int) ≤ (x : Int) := by omega
      have x1 : (x : Int) < (n : Int) := by omega
      go_wp2
      go_loopw [7] (fun i wr => ∃ y : Nat, y ≤ n ∧ i = .int .i64 y ∧ Hid (∀ b, b < y → isS F x b = true) ∧ ∃ d, wr = w.drewN d) (fun i _ => n - (intOf i).toNat)
      case atStart => exact ⟨0, by omega, rfl, fun b h => by omega, _, rfl⟩
      case round =>
        obtain ⟨y, hy, rfl, hP2, d2, rfl⟩ := hrel
        by_cases cy : y < n
        · have k2 : decide (y < n) = true := by simpa using cy
          have k2' : decide ((y : Int) < (n : Int)) = true := decide_eq_true (by omega)
          have wy := IntWalk.i64_in ((y : Int) + 1) (by omega)
          have y0 : (0 : Int) ≤ (y : Int) := by omega
          have y1 : (y : Int) < (n : Int) := by omega
          obtain ⟨gx, ox, kx, hx1, hx2⟩ := HK.out x cx
          obtain ⟨gy, oy, ky, hy1, hy2⟩ := HK.out y cy
          have ay := AS.out x y
          have m1 := hy2 x cx
          have i1 := HQ.out y x cy cx
          obtain ⟨p, hp⟩ : ∃ p : Nat, F y x = p := ⟨(F y x).toNat, by omega⟩
          rw [hp] at m1 ay i1
          rw [Int.toNat_natCast] at ay
          have p0 : (0 : Int) ≤ (p : Int) := by omega
          have p1 : (p : Int) < (n : Int) := by omega
          have m2 := hx2 p (by omega)
          obtain ⟨s, hs⟩ : ∃ s, F x p = s := ⟨_, rfl⟩
          rw [hs] at m2 ay
          clear hs hp i1
          have HY := Lib.hid ay
          clear ay hx2 hy2
          by_cases e : s = ((y : Nat) : Int)
          · have tt : (s != ((y : Nat) : Int)) = false := by simp [e]
            have P3 : Hid (∀ b, b < y + 1 → isS F x b = true) := fun b hb => by
              by_cases e2 : b = y
              · rw [e2, HY.out]; simpa using e
              · exact hP2.out b (by omega)
            clear e
            go_wp2
            go_quiet (fail)
            go_wp2
            go_roundw
            case rel => exact ⟨y + 1, by omega, by go_num, P3, _, by first | rfl | exact World.drewN_drewN _ _ _⟩
            case measure => simp [intOf]; omega
          · have tt : (s != ((y : Nat) : Int)) = true := by simpa using e
            have V2 := Lib.hid (NO.out x y cx cy (by rw [HY.out]; simpa using e))
            clear e
            go_wp2
            go_quiet (fail)
            go_wp2
            go_ret
            exact ⟨by rw [V2.out]; rfl, _, by first | rfl | exact World.drewN_drewN _ _ _⟩
        · have k2 : decide (y < n) = false := by simpa using cy
          have k2' : decide ((y : Int) < (n : Int)) = false := decide_eq_false (by omega)
          obtain rfl : y = n := by omega
          have P3 : Hid (∀ a b, a < x + 1 → b < y → isS F a b = true) := fun a b ha hb => by
            by_cases e : a = x
            · rw [e]; exact hP2.out b hb
            · exact hP.out a b (by omega) hb
          go_wp2
          go_roundw
          case rel => exact ⟨x + 1, by omega, by go_num, P3, _, rfl⟩
          case measure => simp [intOf]; omega
    · have k1 : decide (x < n) = false := by simpa using cx
      have k1' : decide ((x : Int) < (n : Int)) = false := decide_eq_false (by omega)
      obtain rfl : x = n := by omega
      have V2 := Lib.hid (YES.out hP.out)
      go_wp2
      go_ret
      exact ⟨by rw [V2.out]; rfl, _, rfl⟩

set_option maxRecDepth 100000 in
set_option maxHeartbeats 2000000 in
theorem sDiag1 (w : World) (v : Value) (xss : List (List Int)) (n : Nat) (hn : xss.length = n) (h1 : 1 ≤ n) (h10 : n ≤ 10) (hr : ∀ x, x < n → (xss.getD x []).length = n) (hv : RowsAt w v xss) :
    Calls Tryd.prog 75 #[v, .int .i64 1] w fun r w' => r = .returned (.bool (allN n (fun x => (cellF xss x x == ((x : Nat) : Int))))) ∧ ∃ d, w' = w.drewN d := by
  obtain ⟨g, off, c, rfl, K⟩ := hv.look2 hn hr h1
  have HK := Lib.hid (fun x hx => K w (Below.refl _ _) x hx)
  obtain ⟨F, hF⟩ : ∃ F, cellF xss = F := ⟨_, rfl⟩
  rw [hF] at HK ⊢
  have NO : Hid (∀ x, x < n → ((F x x == ((x : Nat) : Int))) = false → allN n (fun x => (F x x == ((x : Nat) : Int))) = false) := fun x hx h => allN_false hx h
  have YES : Hid ((∀ x, x < n → ((F x x == ((x : Nat) : Int))) = true) → allN n (fun x => (F x x == ((x : Nat) : Int))) = true) := fun h => allN_true h
  obtain ⟨V, hV⟩ : ∃ V, allN n (fun x => (F x x == ((x : Nat) : Int))) = V := ⟨_, rfl⟩
  rw [hV] at NO YES ⊢
  clear hv K hV hr hn hF
  go_enter Tryd.func75, Tryd.ntmps75
  go_wp2
  go_loopw [5] (fun i wr => ∃ x : Nat, x ≤ n ∧ i = .int .i64 x ∧ Hid (∀ a, a < x → (fun x => (F x x == ((x : Nat) : Int))) a = true) ∧ ∃ d, wr = w.drewN d) (fun i _ => n - (intOf i).toNat)
  case atStart => exact ⟨0, by omega, rfl, fun a h => by omega, 0, rfl⟩
  case round =>
    obtain ⟨x, hx, rfl, hP, d, rfl⟩ := hrel
    by_cases cx : x < n
    · have k1 : decide (x < n) = true := by simpa using cx
      have k1' : decide ((x : Int) < (n : Int)) = true := decide_eq_true (by omega)
      have wx := IntWalk.i64_in ((x : Int) + 1) (by omega)
      have x0 : (0 : Int) ≤ (x : Int) := by omega
      have x1 : (x : Int) < (n : Int) := by omega
      have n0 : (0 : Int) < (n : Int) := by omega
      have NX := Lib.hid (NO.out x cx)
      obtain ⟨gx, ox, kx, hx1, hx2⟩ := HK.out x cx
      have m1 := hx2 x cx
      obtain ⟨s, hs⟩ : ∃ s, F x x = s := ⟨_, rfl⟩
      have HS := Lib.hid hs
      rw [hs] at m1
      clear hs hx2
      by_cases e : s = ((x : Nat) : Int)
      · have tt : (s != ((x : Nat) : Int)) = false := by simp [e]
        have P3 : Hid (∀ a, a < x + 1 → (fun x => (F x x == ((x : Nat) : Int))) a = true) := fun a ha => by
          by_cases e2 : a = x
          · rw [e2]; show ((F x x == ((x : Nat) : Int))) = true; rw [HS.out]; simpa using e
          · exact hP.out a (by omega)
        clear e
        go_wp2
        go_quiet (fail)
        go_wp2
        go_roundw
        case rel => exact ⟨x + 1, by omega, by go_num, P3, _, by first | rfl | exact World.drewN_drewN _ _ _⟩
        case measure => simp [intOf]; omega
      · have tt : (s != ((x : Nat) : Int)) = true := by simpa using e
        have V2 := Lib.hid (NX.out (by rw [HS.out]; simpa using e))
        clear e
        go_wp2
        go_quiet (fail)
        go_wp2
        go_ret
        exact ⟨by rw [V2.out]; rfl, _, by first | rfl | exact World.drewN_drewN _ _ _⟩
    · have k1 : decide (x < n) = false := by simpa using cx
      have k1' : decide ((x : Int) < (n : Int)) = false := decide_eq_false (by omega)
      obtain rfl : x = n := by omega
      have V2 := Lib.hid (YES.out hP.out)
      go_wp2
      go_ret
      exact ⟨by rw [V2.out]; rfl, _, rfl⟩

set_option maxRecDepth 100000 in
set_option maxHeartbeats 2000000 in
theorem sDiag2 (w : World) (v : Value) (xss : List (List Int)) (n : Nat) (hn : xss.length = n) (h1 : 1 ≤ n) (h10 : n ≤ 10) (hr : ∀ x, x < n → (xss.getD x []).length = n) (hv : RowsAt w v xss) :
    Calls Tryd.prog 75 #[v, .int .i64 2] w fun r w' => r = .returned (.bool (allN n (fun x => (cellF xss x x == cellF xss 0 0)))) ∧ ∃ d, w' = w.drewN d := by
  obtain ⟨g, off, c, rfl, K⟩ := hv.look2 hn hr h1
  have HK := Lib.hid (fun x hx => K w (Below.refl _ _) x hx)
  obtain ⟨F, hF⟩ : ∃ F, cellF xss = F := ⟨_, rfl⟩
  rw [hF] at HK ⊢
  have NO : Hid (∀ x, x < n → ((F x x == F 0 0)) = false → allN n (fun x => (F x x == F 0 0)) = false) := fun x hx h => allN_false hx h
  have YES : Hid ((∀ x, x < n → ((F x x == F 0 0)) = true) → allN n (fun x => (F x x == F 0 0)) = true) := fun h => allN_true h
  obtain ⟨V, hV⟩ : ∃ V, allN n (fun x => (F x x == F 0 0)) = V := ⟨_, rfl⟩
  rw [hV] at NO YES ⊢
  clear hv K hV hr hn hF
  go_enter Tryd.func75, Tryd.ntmps75
  go_wp2
  go_loopw [5] (fun i wr => ∃ x : Nat, x ≤ n ∧ i = .int .i64 x ∧ Hid (∀ a, a < x → (fun x => (F x x == F 0 0)) a = true) ∧ ∃ d, wr = w.drewN d) (fun i _ => n - (intOf i).toNat)
  case atStart => exact ⟨0, by omega, rfl, fun a h => by omega, 0, rfl⟩
  case round =>
    obtain ⟨x, hx, rfl, hP, d, rfl⟩ := hrel
    by_cases cx : x < n
    · have k1 : decide (x < n) = true := by simpa using cx
      have k1' : decide ((x : Int) < (n : Int)) = true := decide_eq_true (by omega)
      have wx := IntWalk.i64_in ((x : Int) + 1) (by omega)
      have x0 : (0 : Int) ≤ (x : Int) := by omega
      have x1 : (x : Int) < (n : Int) := by omega
      have n0 : (0 : Int) < (n : Int) := by omega
      have NX := Lib.hid (NO.out x cx)
      obtain ⟨gx, ox, kx, hx1, hx2⟩ := HK.out x cx
      have m1 := hx2 x cx
      obtain ⟨s, hs⟩ : ∃ s, F x x = s := ⟨_, rfl⟩
      have HS := Lib.hid hs
      rw [hs] at m1
      obtain ⟨g0, o0, k0, h01, h02⟩ := HK.out 0 (by omega)
      have m2 := h02 0 (by omega)
      obtain ⟨t, ht⟩ : ∃ t, F 0 0 = t := ⟨_, rfl⟩
      have HT := Lib.hid ht
      rw [ht] at m2
      rw [Nat.add_zero] at m2 h01
      clear ht h02
      clear hs hx2
      by_cases e : s = t
      · have tt : (s != t) = false := by simp [e]
        have P3 : Hid (∀ a, a < x + 1 → (fun x => (F x x == F 0 0)) a = true) := fun a ha => by
          by_cases e2 : a = x
          · rw [e2]; show ((F x x == F 0 0)) = true; rw [HS.out, HT.out]; simpa using e
          · exact hP.out a (by omega)
        clear e
        go_wp2
        go_quiet (fail)
        go_wp2
        go_roundw
        case rel => exact ⟨x + 1, by omega, by go_num, P3, _, by first | rfl | exact World.drewN_drewN _ _ _⟩
        case measure => simp [intOf]; omega
      · have tt : (s != t) = true := by simpa using e
        have V2 := Lib.hid (NX.out (by rw [HS.out, HT.out]; simpa using e))
        clear e
        go_wp2
        go_quiet (fail)
        go_wp2
        go_ret
        exact ⟨by rw [V2.out]; rfl, _, by first | rfl | exact World.drewN_drewN _ _ _⟩
    · have k1 : decide (x < n) = false := by simpa using cx
      have k1' : decide ((x : Int) < (n : Int)) = false := decide_eq_false (by omega)
      obtain rfl : x = n := by omega
      have V2 := Lib.hid (YES.out hP.out)
      go_wp2
      go_ret
      exact ⟨by rw [V2.out]; rfl, _, rfl⟩

set_option maxRecDepth 100000 in
set_option maxHeartbeats 4000000 in
theorem sSome_true (w : World) (v : Value) (xss : List (List Int)) (n : Nat) (hn : xss.length = n) (h10 : n ≤ 10) (hr : ∀ x, x < n → (xss.getD x []).length = n) (hv : RowsAt w v xss) :
    Calls Tryd.prog 76 #[v, .bool true] w fun r w' => r = .returned (.bool (fstN n (lftB n (cellF xss))).isSome) ∧ w' = w := by
  have HU := Lib.hid (fun e he => sUnit_true w v xss n hn h10 hr hv e he)
  have NO : Hid ((∀ k, k < n → lftB n (cellF xss) k = false) → fstN n (lftB n (cellF xss)) = none) := fstN_none
  have YES : Hid (∀ e, e < n → lftB n (cellF xss) e = true → (∀ k, k < e → lftB n (cellF xss) k = false) → fstN n (lftB n (cellF xss)) = some e) := fun e => fstN_some
  obtain ⟨V, hV⟩ : ∃ V, fstN n (lftB n (cellF xss)) = V := ⟨_, rfl⟩
  rw [hV] at NO YES ⊢
  obtain ⟨va, vk, rfl, -, -⟩ := hv.cellsOf
  rw [hn] at HU ⊢
  clear hv hV hr hn
  go_enter Tryd.func76, Tryd.ntmps76
  go_wp2
  go_loop [5] (fun i => ∃ x : Nat, x ≤ n ∧ i = .int .i64 x ∧ Hid (∀ k, k < x → lftB n (cellF xss) k = false)) (fun i => n - (intOf i).toNat)
  case atStart => exact ⟨0, by omega, rfl, fun k h => by omega⟩
  case round =>
    obtain ⟨x, hx, rfl, hP⟩ := hrel
    by_cases c1 : x < n
    · have k1 : decide (x < n) = true := by simpa using c1
      have k1' : decide ((x : Int) < (n : Int)) = true := decide_eq_true (by omega)
      have w3 := IntWalk.i64_in ((x : Int) + 1) (by omega)
      have H1 := Lib.hid (HU.out x c1)
      have Y1 := Lib.hid (fun h => YES.out x c1 h hP.out)
      have N1 : Hid (lftB n (cellF xss) x = false → ∀ k, k < x + 1 → lftB n (cellF xss) k = false) := fun h k hk => by
        by_cases e : k = x
        · rw [e]; exact h
        · exact hP.out k (by omega)
      obtain ⟨b, hb⟩ : ∃ b, lftB n (cellF xss) x = b := ⟨_, rfl⟩
      rw [hb] at H1 Y1 N1
      clear hb
      cases b with
      | true =>
        have V2 := Lib.hid (Y1.out rfl)
        go_wp2_with fail
        refine H1.out.mono ?_
        rintro e w2 ⟨rfl, rfl⟩
        go_wp2
        go_ret
        exact ⟨by rw [V2.out]; rfl, rfl⟩
      | false =>
        have P2 := Lib.hid (N1.out rfl)
        go_wp2_with fail
        refine H1.out.mono ?_
        rintro e w2 ⟨rfl, rfl⟩
        go_wp2
        go_round
        case rel => exact ⟨x + 1, by omega, by go_num, P2⟩
        case measure => simp [intOf]; omega
    · have k1 : decide (x < n) = false := by simpa using c1
      have k1' : decide ((x : Int) < (n : Int)) = false := decide_eq_false (by omega)
      obtain rfl : x = n := by omega
      have V2 := Lib.hid (NO.out hP.out)
      go_wp2
      go_ret
      exact ⟨by rw [V2.out]; rfl, rfl⟩

set_option maxRecDepth 100000 in
set_option maxHeartbeats 4000000 in
theorem sSome_false (w : World) (v : Value) (xss : List (List Int)) (n : Nat) (hn : xss.length = n) (h10 : n ≤ 10) (hr : ∀ x, x < n → (xss.getD x []).length = n) (hv : RowsAt w v xss) :
    Calls Tryd.prog 76 #[v, .bool false] w fun r w' => r = .returned (.bool (fstN n (rgtB n (cellF xss))).isSome) ∧ w' = w := by
  have HU := Lib.hid (fun e he => sUnit_false w v xss n hn h10 hr hv e he)
  have NO : Hid ((∀ k, k < n → rgtB n (cellF xss) k = false) → fstN n (rgtB n (cellF xss)) = none) := fstN_none
  have YES : Hid (∀ e, e < n → rgtB n (cellF xss) e = true → (∀ k, k < e → rgtB n (cellF xss) k = false) → fstN n (rgtB n (cellF xss)) = some e) := fun e => fstN_some
  obtain ⟨V, hV⟩ : ∃ V, fstN n (rgtB n (cellF xss)) = V := ⟨_, rfl⟩
  rw [hV] at NO YES ⊢
  obtain ⟨va, vk, rfl, -, -⟩ := hv.cellsOf
  rw [hn] at HU ⊢
  clear hv hV hr hn
  go_enter Tryd.func76, Tryd.ntmps76
  go_wp2
  go_loop [5] (fun i => ∃ x : Nat, x ≤ n ∧ i = .int .i64 x ∧ Hid (∀ k, k < x → rgtB n (cellF xss) k = false)) (fun i => n - (intOf i).toNat)
  case atStart => exact ⟨0, by omega, rfl, fun k h => by omega⟩
  case round =>
    obtain ⟨x, hx, rfl, hP⟩ := hrel
    by_cases c1 : x < n
    · have k1 : decide (x < n) = true := by simpa using c1
      have k1' : decide ((x : Int) < (n : Int)) = true := decide_eq_true (by omega)
      have w3 := IntWalk.i64_in ((x : Int) + 1) (by omega)
      have H1 := Lib.hid (HU.out x c1)
      have Y1 := Lib.hid (fun h => YES.out x c1 h hP.out)
      have N1 : Hid (rgtB n (cellF xss) x = false → ∀ k, k < x + 1 → rgtB n (cellF xss) k = false) := fun h k hk => by
        by_cases e : k = x
        · rw [e]; exact h
        · exact hP.out k (by omega)
      obtain ⟨b, hb⟩ : ∃ b, rgtB n (cellF xss) x = b := ⟨_, rfl⟩
      rw [hb] at H1 Y1 N1
      clear hb
      cases b with
      | true =>
        have V2 := Lib.hid (Y1.out rfl)
        go_wp2_with fail
        refine H1.out.mono ?_
        rintro e w2 ⟨rfl, rfl⟩
        go_wp2
        go_ret
        exact ⟨by rw [V2.out]; rfl, rfl⟩
      | false =>
        have P2 := Lib.hid (N1.out rfl)
        go_wp2_with fail
        refine H1.out.mono ?_
        rintro e w2 ⟨rfl, rfl⟩
        go_wp2
        go_round
        case rel => exact ⟨x + 1, by omega, by go_num, P2⟩
        case measure => simp [intOf]; omega
    · have k1 : decide (x < n) = false := by simpa using c1
      have k1' : decide ((x : Int) < (n : Int)) = false := decide_eq_false (by omega)
      obtain rfl : x = n := by omega
      have V2 := Lib.hid (NO.out hP.out)
      go_wp2
      go_ret
      exact ⟨by rw [V2.out]; rfl, rfl⟩

/-- l08Holds: one function for all eight identities. -/
theorem sHolds (w : World) (v : Value) (xss : List (List Int)) (n : Nat) (hn : xss.length = n) (h1 : 1 ≤ n) (h10 : n ≤ 10) (hr : ∀ x, x < n → (xss.getD x []).length = n) (hv : RowsAt w v xss) (IQ : InSq n (cellF xss)) (k : Nat) (k1 : 1 ≤ k) (k8 : k ≤ 8) :
    Calls Tryd.prog 43 #[v, .int .i64 (k : Int)] w fun r w' => r = .returned (.bool (idB n (cellF xss) k)) ∧ Below w.heap.size w w' := by
  have HP3 := Lib.hid (sPairs3 w v xss n hn h1 h10 hr hv IQ)
  have HP7 := Lib.hid (fun W (hW : RowsAt W v xss) => sPairs7 W v xss n hn h1 h10 hr hW IQ)
  have HD1 := Lib.hid (sDiag1 w v xss n hn h1 h10 hr hv)
  have HD2 := Lib.hid (sDiag2 w v xss n hn h1 h10 hr hv)
  have HST := Lib.hid (sSome_true w v xss n hn h10 hr hv)
  have HSF := Lib.hid (sSome_false w v xss n hn h10 hr hv)
  have HAS := Lib.hid (sAssoc w v xss n hn h1 h10 hr hv IQ)
  have HV := Lib.hid (fun d => hv.drewN d)
  have e1 := diag1 n (cellF xss)
  have e2 := diag2 n (cellF xss) h1
  rw [← e1] at HD1
  rw [← e2] at HD2
  obtain ⟨va, vk, rfl, -, -⟩ := hv.cellsOf
  clear hv hr hn e1 e2 IQ
  rcases (by omega : k = 1 ∨ k = 2 ∨ k = 3 ∨ k = 4 ∨ k = 5 ∨ k = 6 ∨ k = 7 ∨ k = 8) with rfl | rfl | rfl | rfl | rfl | rfl | rfl | rfl
  · rw [id1]
    change Calls Tryd.prog 43 #[_, .int .i64 1] _ _
    go_enter Tryd.func43, Tryd.ntmps43
    go_wp2_with fail
    refine HD1.out.mono ?_
    rintro e w1 ⟨rfl, d, rfl⟩
    go_wp2
    go_ret
    exact ⟨rfl, below_drewN (Below.refl _ _) _⟩
  · rw [id2]
    change Calls Tryd.prog 43 #[_, .int .i64 2] _ _
    go_enter Tryd.func43, Tryd.ntmps43
    go_wp2_with fail
    refine HD2.out.mono ?_
    rintro e w1 ⟨rfl, d, rfl⟩
    go_wp2
    go_ret
    exact ⟨rfl, below_drewN (Below.refl _ _) _⟩
  · rw [id3]
    change Calls Tryd.prog 43 #[_, .int .i64 3] _ _
    go_enter Tryd.func43, Tryd.ntmps43
    go_wp2_with fail
    refine HP3.out.mono ?_
    rintro e w1 ⟨rfl, d, rfl⟩
    go_wp2
    go_ret
    exact ⟨rfl, below_drewN (Below.refl _ _) _⟩
  · rw [id4]
    change Calls Tryd.prog 43 #[_, .int .i64 4] _ _
    go_enter Tryd.func43, Tryd.ntmps43
    go_wp2_with fail
    refine HST.out.mono ?_
    rintro e w1 ⟨rfl, rfl⟩
    go_wp2
    go_ret
    exact ⟨rfl, Below.refl _ _⟩
  · rw [id5]
    change Calls Tryd.prog 43 #[_, .int .i64 5] _ _
    go_enter Tryd.func43, Tryd.ntmps43
    go_wp2_with fail
    refine HSF.out.mono ?_
    rintro e w1 ⟨rfl, rfl⟩
    go_wp2
    go_ret
    exact ⟨rfl, Below.refl _ _⟩
  · rw [id6]
    change Calls Tryd.prog 43 #[_, .int .i64 6] _ _
    go_enter Tryd.func43, Tryd.ntmps43
    go_wp2_with fail
    refine HAS.out.mono ?_
    rintro e w1 ⟨rfl, b1⟩
    have B1 := Lib.hid b1
    clear b1
    go_wp2
    go_ret
    exact ⟨rfl, B1.out⟩
  · rw [id7]
    change Calls Tryd.prog 43 #[_, .int .i64 7] _ _
    go_enter Tryd.func43, Tryd.ntmps43
    go_wp2_with fail
    refine (HP7.out w (HV.out 0)).mono ?_
    rintro e w1 ⟨rfl, d, rfl⟩
    go_wp2
    go_ret
    exact ⟨rfl, below_drewN (Below.refl _ _) _⟩
  · rw [id8]
    change Calls Tryd.prog 43 #[_, .int .i64 8] _ _
    obtain ⟨c, hc⟩ : ∃ c, allP n (isC (cellF xss)) = c := ⟨_, rfl⟩
    obtain ⟨z, hz⟩ : ∃ z, allP n (isS (cellF xss)) = z := ⟨_, rfl⟩
    rw [hc] at HP3 ⊢
    simp only [hz] at HP7 ⊢
    clear hc hz
    cases c with
    | false =>
      rw [Bool.false_and]
      go_enter Tryd.func43, Tryd.ntmps43
      go_wp2_with fail
      refine HP3.out.mono ?_
      rintro e w1 ⟨rfl, d, rfl⟩
      go_wp2
      go_ret
      exact ⟨rfl, below_drewN (Below.refl _ _) _⟩
    | true =>
      rw [Bool.true_and]
      go_enter Tryd.func43, Tryd.ntmps43
      go_wp2_with fail
      refine HP3.out.mono ?_
      rintro e w1 ⟨rfl, d, rfl⟩
      go_wp2_with fail
      refine (HP7.out _ (HV.out d)).mono ?_
      rintro e w2 ⟨rfl, d2, rfl⟩
      go_wp2
      go_ret
      exact ⟨rfl, below_drewN (Below.refl _ _) _⟩

end
end Go.Proofs.YtanfodbpgpfjmaaDoor
