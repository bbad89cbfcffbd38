/- Partial squares: the numbers. -/
import Derived.Test.YtigcgpgkpkoodaaDoorQgs
import Derived.Test.YtigcgpgkpkoodaaDoorVa
namespace Go.Proofs.YtigcgpgkpkoodaaDoor
open Go.RowKit
set_option linter.unusedVariables false

/-- A partial square. -/
structure PartF (n : Nat) (f : Nat → Nat → Int) : Prop where
  cell : ∀ x y, x < n → y < n → -1 ≤ f x y ∧ f x y < n
  rowD : ∀ x y k, x < n → y < n → k < n → 0 ≤ f x y → k ≠ y → f x k ≠ f x y
  colD : ∀ x y k, x < n → y < n → k < n → 0 ≤ f x y → k ≠ x → f k y ≠ f x y
structure IsPart (xss : List (List Int)) : Prop where
  lo : 1 ≤ xss.length
  hi : xss.length ≤ 10
  row : ∀ x, x < xss.length → (xss.getD x []).length = xss.length
  pf : PartF xss.length (cellF xss)
noncomputable def ptB (xss : List (List Int)) : Bool := @decide (IsPart xss) (Classical.propDecidable _)
theorem ptB_true {xss : List (List Int)} (h : IsPart xss) : ptB xss = true := @decide_eq_true _ (Classical.propDecidable _) h
theorem ptB_false {xss : List (List Int)} (h : ¬ IsPart xss) : ptB xss = false := @decide_eq_false _ (Classical.propDecidable _) h
theorem of_ptB {xss : List (List Int)} (h : ptB xss = true) : IsPart xss := @of_decide_eq_true _ (Classical.propDecidable _) h
/-- What the model's test finds at a cell and a number. -/
def bad3 (f : Nat → Nat → Int) (x y k : Nat) : Bool := decide (0 ≤ f x y) && ((decide (k ≠ y) && (f x k == f x y)) || (decide (k ≠ x) && (f k y == f x y)))
theorem part_of {n : Nat} {f : Nat → Nat → Int} (h1 : ∀ x y, x < n → y < n → -1 ≤ f x y ∧ f x y ≤ (n : Int) - 1) (h2 : ∀ x y k, x < n → y < n → k < n → bad3 f x y k = false) : PartF n f where
  cell x y hx hy := by have := h1 x y hx hy; omega
  rowD x y k hx hy hk h0 hne e := by
    have := h2 x y k hx hy hk
    unfold bad3 at this
    rw [decide_eq_true h0, decide_eq_true hne, Bool.true_and, Bool.true_and, e] at this
    simp at this
  colD x y k hx hy hk h0 hne e := by
    have := h2 x y k hx hy hk
    unfold bad3 at this
    rw [decide_eq_true h0, decide_eq_true hne, Bool.true_and, Bool.true_and, e] at this
    simp at this
theorem PartF.good {n : Nat} {f : Nat → Nat → Int} (h : PartF n f) {x y k : Nat} (hx : x < n) (hy : y < n) (hk : k < n) : bad3 f x y k = false := by
  unfold bad3
  by_cases h0 : 0 ≤ f x y
  · have e1 : (decide (k ≠ y) && (f x k == f x y)) = false := by
      by_cases c : k = y
      · simp [c]
      · have := h.rowD x y k hx hy hk h0 c; simp [this]
    have e2 : (decide (k ≠ x) && (f k y == f x y)) = false := by
      by_cases c : k = x
      · simp [c]
      · have := h.colD x y k hx hy hk h0 c; simp [this]
    rw [e1, e2]; simp
  · rw [decide_eq_false h0]; rfl

/-- The cells that were filled ahead of row x, column y; the others are empty. -/
def ptF (n : Nat) (f : Nat → Nat → Int) (x y : Nat) : Nat → Nat → Int := fun a b => if a < n ∧ b < n then (if a < x ∨ a = x ∧ b < y then f a b else -1) else 0
theorem ptF_zero (n : Nat) (f : Nat → Nat → Int) : ptF n f 0 0 = sqF n (fun _ _ => -1) := by
  funext a b
  unfold ptF sqF
  by_cases c : a < n ∧ b < n
  · rw [if_pos c, if_pos c, if_neg (by omega)]
  · rw [if_neg c, if_neg c]
theorem ptF_row (n : Nat) (f : Nat → Nat → Int) (x : Nat) : ptF n f x n = ptF n f (x + 1) 0 := by
  funext a b
  unfold ptF
  by_cases c : a < n ∧ b < n
  · rw [if_pos c, if_pos c]
    by_cases d : a < x ∨ a = x ∧ b < n
    · rw [if_pos d, if_pos (by omega)]
    · rw [if_neg d, if_neg (by omega)]
  · rw [if_neg c, if_neg c]
theorem ptF_all (n : Nat) (f : Nat → Nat → Int) : ptF n f n 0 = sqF n f := by
  funext a b
  unfold ptF sqF
  by_cases c : a < n ∧ b < n
  · rw [if_pos c, if_pos c, if_pos (by omega)]
  · rw [if_neg c, if_neg c]
theorem ptF_step {n x y : Nat} (f : Nat → Nat → Int) (hx : x < n) (hy : y < n) : upd2 (ptF n f x y) x y (f x y) = ptF n f x (y + 1) := by
  funext a b
  unfold upd2 ptF
  by_cases e : a = x ∧ b = y
  · rw [if_pos e, if_pos (by omega), if_pos (by omega), e.1, e.2]
  · rw [if_neg e]
    by_cases c : a < n ∧ b < n
    · rw [if_pos c, if_pos c]
      by_cases d : a < x ∨ a = x ∧ b < y
      · rw [if_pos d, if_pos (by omega)]
      · rw [if_neg d, if_neg (by omega)]
    · rw [if_neg c, if_neg c]
theorem ptF_skip {n x y : Nat} {f : Nat → Nat → Int} (h : f x y = -1) : ptF n f x (y + 1) = ptF n f x y := by
  funext a b
  unfold ptF
  by_cases c : a < n ∧ b < n
  · rw [if_pos c, if_pos c]
    by_cases e : a = x ∧ b = y
    · rw [if_pos (by omega), if_neg (by omega), e.1, e.2, h]
    · by_cases d : a < x ∨ a = x ∧ b < y
      · rw [if_pos d, if_pos (by omega)]
      · rw [if_neg d, if_neg (by omega)]
  · rw [if_neg c, if_neg c]
theorem ptF_here {n x y : Nat} {f : Nat → Nat → Int} (hx : x < n) (hy : y < n) : ptF n f x y x y = -1 := by
  unfold ptF
  rw [if_pos ⟨hx, hy⟩, if_neg (by omega)]

/-- Sets as bits. -/
def mns (a b : Nat) : Nat := a &&& (4294967295 - b)
theorem mns_lt {a b : Nat} (h : a < 4294967296) : mns a b < 4294967296 := Nat.lt_of_le_of_lt Nat.and_le_left h
theorem mns_bit {a b : Nat} (ha : a < 4294967296) (hb : b < 4294967296) (i : Nat) : (mns a b).testBit i = (a.testBit i && !b.testBit i) := by
  unfold mns
  rw [Nat.testBit_and, show 4294967295 - b = 2 ^ 32 - (b + 1) by omega, Nat.testBit_two_pow_sub_succ (by omega)]
  by_cases c : i < 32
  · rw [decide_eq_true c]; simp
  · have : a.testBit i = false := Nat.testBit_lt_two_pow (Nat.lt_of_lt_of_le (show a < 2 ^ 32 from ha) (Nat.pow_le_pow_right (by omega) (by omega)))
    rw [this]; rfl
def updN (r : Nat → Nat) (i v : Nat) : Nat → Nat := fun j => if j = i then v else r j
/-- The symbols of each row, as bits. -/
def RowB (n : Nat) (G : Nat → Nat → Int) (r : Nat → Nat) : Prop := ∀ a, a < n → r a < 4294967296 ∧ ∀ s : Nat, (r a).testBit s = true ↔ ∃ b, b < n ∧ G a b = s
def ColB (n : Nat) (G : Nat → Nat → Int) (c : Nat → Nat) : Prop := RowB n (fun x y => G y x) c
theorem upd2_T (G : Nat → Nat → Int) (x y : Nat) (v : Int) : (fun a b => upd2 G x y v b a) = upd2 (fun a b => G b a) y x v := by
  funext a b
  unfold upd2
  by_cases e : b = x ∧ a = y
  · rw [if_pos e, if_pos ⟨e.2, e.1⟩]
  · rw [if_neg e, if_neg (fun k => e ⟨k.2, k.1⟩)]
theorem two_pow_lt {z : Nat} (h : z < 32) : 2 ^ z < 4294967296 := by
  have : 2 ^ z < 2 ^ 32 := Nat.pow_lt_pow_right (by omega) h
  omega
theorem RowB.empty (n : Nat) : RowB n (sqF n (fun _ _ => -1)) (fun _ => 0) := fun a ha => ⟨by show 0 < 4294967296; omega, fun s => by
  show (0 : Nat).testBit s = true ↔ _
  rw [Nat.zero_testBit]
  constructor
  · intro h; cases h
  · rintro ⟨b, hb, e⟩
    rw [sqF_in _ ha hb] at e; omega⟩
theorem RowB.fill {n x y z : Nat} {G : Nat → Nat → Int} {r : Nat → Nat} (h : RowB n G r) (hy : y < n) (hz : z < 32) (he : G x y = -1) : RowB n (upd2 G x y z) (updN r x (r x ||| 2 ^ z)) := fun a ha => by
  obtain ⟨h1, h2⟩ := h a ha
  unfold updN
  by_cases e : a = x
  · subst e
    rw [if_pos rfl]
    refine ⟨Nat.or_lt_two_pow (n := 32) h1 (two_pow_lt hz), fun s => ?_⟩
    rw [Nat.testBit_or, Nat.testBit_two_pow, Bool.or_eq_true, decide_eq_true_iff, h2]
    constructor
    · rintro (⟨b, hb, e⟩ | e)
      · refine ⟨b, hb, ?_⟩
        unfold upd2
        rw [if_neg (fun k => ?_)]
        · exact e
        · rw [k.2, he] at e; omega
      · refine ⟨y, hy, ?_⟩
        unfold upd2
        rw [if_pos ⟨rfl, rfl⟩]; omega
    · rintro ⟨b, hb, e⟩
      unfold upd2 at e
      split at e
      · right; omega
      · left; exact ⟨b, hb, e⟩
  · rw [if_neg e]
    refine ⟨h1, fun s => ?_⟩
    rw [h2]
    have : ∀ b, upd2 G x y z a b = G a b := fun b => by unfold upd2; rw [if_neg (fun k => e k.1)]
    simp only [this]
theorem RowB.clear {n x y z : Nat} {G : Nat → Nat → Int} {r : Nat → Nat} (h : RowB n G r) (hy : y < n) (hz : z < 32) (he : G x y = z) (hd : ∀ k, k < n → k ≠ y → G x k ≠ z) : RowB n (upd2 G x y (-1)) (updN r x (mns (r x) (2 ^ z))) := fun a ha => by
  obtain ⟨h1, h2⟩ := h a ha
  unfold updN
  by_cases e : a = x
  · subst e
    rw [if_pos rfl]
    refine ⟨mns_lt h1, fun s => ?_⟩
    rw [mns_bit h1 (two_pow_lt hz), Nat.testBit_two_pow, Bool.and_eq_true, h2]
    constructor
    · rintro ⟨⟨b, hb, e⟩, k⟩
      have k2 : ¬ z = s := by simpa using k
      refine ⟨b, hb, ?_⟩
      unfold upd2
      rw [if_neg (fun q => ?_)]
      · exact e
      · rw [q.2, he] at e; omega
    · rintro ⟨b, hb, e⟩
      unfold upd2 at e
      split at e
      · omega
      · rename_i q
        have bn : b ≠ y := fun k => q ⟨rfl, k⟩
        refine ⟨⟨b, hb, e⟩, ?_⟩
        have := hd b hb bn
        have k2 : ¬ z = s := fun k => this (by rw [e, k])
        simp [k2]
  · rw [if_neg e]
    refine ⟨h1, fun s => ?_⟩
    rw [h2]
    have : ∀ b, upd2 G x y (-1) a b = G a b := fun b => by unfold upd2; rw [if_neg (fun k => e k.1)]
    simp only [this]
theorem ColB.empty (n : Nat) : ColB n (sqF n (fun _ _ => -1)) (fun _ => 0) := by
  have : (fun x y => sqF n (fun _ _ => -1) y x) = sqF n (fun _ _ => -1) := by
    funext a b
    unfold sqF
    by_cases c : a < n ∧ b < n
    · rw [if_pos c, if_pos ⟨c.2, c.1⟩]
    · rw [if_neg c, if_neg (fun k => c ⟨k.2, k.1⟩)]
  unfold ColB; rw [this]; exact RowB.empty n
theorem ColB.fill {n x y z : Nat} {G : Nat → Nat → Int} {c : Nat → Nat} (h : ColB n G c) (hx : x < n) (hz : z < 32) (he : G x y = -1) : ColB n (upd2 G x y z) (updN c y (c y ||| 2 ^ z)) := by
  unfold ColB; rw [upd2_T]
  exact RowB.fill (G := fun a b => G b a) h hx hz he
theorem ColB.clear {n x y z : Nat} {G : Nat → Nat → Int} {c : Nat → Nat} (h : ColB n G c) (hx : x < n) (hz : z < 32) (he : G x y = z) (hd : ∀ k, k < n → k ≠ x → G k y ≠ z) : ColB n (upd2 G x y (-1)) (updN c y (mns (c y) (2 ^ z))) := by
  unfold ColB; rw [upd2_T]
  exact RowB.clear (G := fun a b => G b a) h hx hz he hd
/-- The candidates, as bits. -/
def cnd (n u v : Nat) : Nat := mns (mns (2 ^ n - 1) u) v
theorem cnd_lt {n u v : Nat} (h : n ≤ 10) : cnd n u v < 4294967296 := by
  have : 2 ^ n ≤ 2 ^ 10 := Nat.pow_le_pow_right (by omega) h
  exact mns_lt (mns_lt (by omega))
theorem cnd_bit {n u v : Nat} (h : n ≤ 10) (hu : u < 4294967296) (hv : v < 4294967296) (z : Nat) : (cnd n u v).testBit z = (decide (z < n) && !u.testBit z && !v.testBit z) := by
  have : 2 ^ n ≤ 2 ^ 10 := Nat.pow_le_pow_right (by omega) h
  unfold cnd
  rw [mns_bit (mns_lt (by omega)) hv, mns_bit (by omega) hu, Nat.testBit_two_pow_sub_one]
def Cand (n : Nat) (G : Nat → Nat → Int) (x y : Nat) (z : Int) : Prop := (∀ b, b < n → G x b ≠ z) ∧ (∀ a, a < n → G a y ≠ z)
theorem cnd_iff {n x y : Nat} {G : Nat → Nat → Int} {r c : Nat → Nat} (h : n ≤ 10) (hr : RowB n G r) (hc : ColB n G c) (hx : x < n) (hy : y < n) (z : Nat) : (cnd n (r x) (c y)).testBit z = true ↔ z < n ∧ Cand n G x y z := by
  obtain ⟨r1, r2⟩ := hr x hx
  obtain ⟨c1, c2⟩ := hc y hy
  rw [cnd_bit h r1 c1, Bool.and_eq_true, Bool.and_eq_true, decide_eq_true_iff, Bool.not_eq_true', Bool.not_eq_true']
  unfold Cand
  constructor
  · rintro ⟨⟨h1, h2⟩, h3⟩
    refine ⟨h1, fun b hb e => ?_, fun a ha e => ?_⟩
    · rw [(r2 z).2 ⟨b, hb, e⟩] at h2; cases h2
    · rw [(c2 z).2 ⟨a, ha, e⟩] at h3; cases h3
  · rintro ⟨h1, h2, h3⟩
    refine ⟨⟨h1, ?_⟩, ?_⟩
    · cases e : (r x).testBit z with
      | false => rfl
      | true =>
        obtain ⟨b, hb, e2⟩ := (r2 z).1 e
        exact absurd e2 (h2 b hb)
    · cases e : (c y).testBit z with
      | false => rfl
      | true =>
        obtain ⟨a, ha, e2⟩ := (c2 z).1 e
        exact absurd e2 (h3 a ha)
def canI (n u v : Nat) (z : Int) : Bool := decide (0 ≤ z ∧ z < n) && (cnd n u v).testBit z.toNat
theorem canI_iff {n x y : Nat} {G : Nat → Nat → Int} {r c : Nat → Nat} (h : n ≤ 10) (hr : RowB n G r) (hc : ColB n G c) (hx : x < n) (hy : y < n) (z : Int) : canI n (r x) (c y) z = true ↔ (0 ≤ z ∧ z < n) ∧ Cand n G x y z := by
  unfold canI
  rw [Bool.and_eq_true, decide_eq_true_iff, cnd_iff h hr hc hx hy]
  constructor
  · rintro ⟨h1, h2, h3⟩
    refine ⟨h1, ?_⟩
    rwa [show ((z.toNat : Nat) : Int) = z by omega] at h3
  · rintro ⟨h1, h2⟩
    refine ⟨h1, by omega, ?_⟩
    rwa [show ((z.toNat : Nat) : Int) = z by omega]

/-- The cells ahead of row x, column y are as they must be. -/
def Good (n : Nat) (f : Nat → Nat → Int) (x y : Nat) : Prop := ∀ a b, a < n → b < n → (a < x ∨ a = x ∧ b < y) → f a b = -1 ∨ ((0 ≤ f a b ∧ f a b < n) ∧ (∀ k, k < b → f a k ≠ f a b) ∧ ∀ k, k < a → f k b ≠ f a b)
theorem Good.zero (n : Nat) (f : Nat → Nat → Int) : Good n f 0 0 := fun a b _ _ h => by omega
theorem Good.row {n x : Nat} {f : Nat → Nat → Int} (h : Good n f x n) : Good n f (x + 1) 0 := fun a b ha hb k => h a b ha hb (by omega)
theorem Good.skip {n x y : Nat} {f : Nat → Nat → Int} (h : Good n f x y) (e : f x y = -1) : Good n f x (y + 1) := fun a b ha hb k => by
  by_cases q : a = x ∧ b = y
  · left; rw [q.1, q.2, e]
  · exact h a b ha hb (by omega)
theorem Good.step {n x y : Nat} {f : Nat → Nat → Int} (h : Good n f x y) (hx : x < n) (hy : y < n) (e : 0 ≤ f x y ∧ f x y < n) (hc : Cand n (ptF n f x y) x y (f x y)) : Good n f x (y + 1) := fun a b ha hb k => by
  by_cases q : a = x ∧ b = y
  · obtain ⟨rfl, rfl⟩ := q
    refine .inr ⟨e, fun k hk e2 => ?_, fun k hk e2 => ?_⟩
    · refine hc.1 k (by omega) ?_
      unfold ptF
      rw [if_pos (by omega), if_pos (by omega)]; exact e2
    · refine hc.2 k (by omega) ?_
      unfold ptF
      rw [if_pos (by omega), if_pos (by omega)]; exact e2
  · exact h a b ha hb (by omega)
theorem Good.all {n : Nat} {f : Nat → Nat → Int} (h : Good n f n 0) : PartF n f where
  cell x y hx hy := by
    rcases h x y hx hy (by omega) with e | ⟨e, -, -⟩ <;> omega
  rowD x y k hx hy hk h0 hne e := by
    rcases Nat.lt_or_gt_of_ne hne with c | c
    · rcases h x y hx hy (by omega) with e1 | ⟨-, e1, -⟩
      · omega
      · exact e1 k c e
    · rcases h x k hx hk (by omega) with e1 | ⟨-, e1, -⟩
      · omega
      · exact e1 y c e.symm
  colD x y k hx hy hk h0 hne e := by
    rcases Nat.lt_or_gt_of_ne hne with c | c
    · rcases h x y hx hy (by omega) with e1 | ⟨-, -, e1⟩
      · omega
      · exact e1 k c e
    · rcases h k y hk hy (by omega) with e1 | ⟨-, -, e1⟩
      · omega
      · exact e1 x c e.symm
/-- A cell that is no candidate spoils the whole. -/
theorem no_part {n x y : Nat} {f : Nat → Nat → Int} (hx : x < n) (hy : y < n) (h1 : f x y ≠ -1) (h2 : ¬ ((0 ≤ f x y ∧ f x y < n) ∧ Cand n (ptF n f x y) x y (f x y))) : ¬ PartF n f := fun p => h2 (by
  have c := p.cell x y hx hy
  refine ⟨by omega, fun b hb e => ?_, fun a ha e => ?_⟩
  · unfold ptF at e
    rw [if_pos ⟨hx, hb⟩] at e
    split at e
    · exact p.rowD x y b hx hy hb (by omega) (by omega) e
    · exact h1 e.symm
  · unfold ptF at e
    rw [if_pos ⟨ha, hy⟩] at e
    split at e
    · exact p.colD x y a hx hy ha (by omega) (by omega) e
    · exact h1 e.symm)

/-- The cells of a partial square. -/
def pV (n : Nat) (G : Nat → Nat → Int) (r c : Nat → Nat) : Nat → Value := fun i => if i < 101 then .int .i64 (sqC n G i) else if i < 111 then .int .u32 (r (i - 101)) else .int .u32 (c (i - 111))
theorem pV_one (n : Nat) (G : Nat → Nat → Int) (r c : Nat → Nat) (i : Nat) : (pV n G r c i).oneCell' = true := by
  unfold pV
  split
  · rfl
  · split <;> rfl
theorem Tryd.infoPt : (Tryd.prog.info? 96).map (·.size) = some 121 := by kernel_rfl
def PtV (w : World) (g n : Nat) (G : Nat → Nat → Int) (r c : Nat → Nat) : Prop := Va w 96 g 121 (pV n G r c)
theorem PtV.order {w : World} {g n : Nat} {G : Nat → Nat → Int} {r c : Nat → Nat} (h : PtV w g n G r c) : w.cell? ⟨g, 0, none⟩ = some (.int .i64 n) := Va.cell h 0 (by omega)
theorem PtV.sym {w : World} {g n : Nat} {G : Nat → Nat → Int} {r c : Nat → Nat} (h : PtV w g n G r c) {x y : Nat} (hx : x < 10) (hy : y < 10) : w.cell? ⟨g, 1 + x * 10 + y, none⟩ = some (.int .i64 (G x y)) := by
  have := Va.cell h (1 + x * 10 + y) (by omega)
  unfold pV at this
  rwa [if_pos (by omega), sqC_at _ _ hy] at this
theorem PtV.rowC {w : World} {g n : Nat} {G : Nat → Nat → Int} {r c : Nat → Nat} (h : PtV w g n G r c) {x : Nat} (hx : x < 10) : w.cell? ⟨g, 101 + x, none⟩ = some (.int .u32 (r x)) := by
  have := Va.cell h (101 + x) (by omega)
  unfold pV at this
  rwa [if_neg (by omega), if_pos (by omega), Nat.add_sub_cancel_left] at this
theorem PtV.colC {w : World} {g n : Nat} {G : Nat → Nat → Int} {r c : Nat → Nat} (h : PtV w g n G r c) {y : Nat} (hy : y < 10) : w.cell? ⟨g, 111 + y, none⟩ = some (.int .u32 (c y)) := by
  have := Va.cell h (111 + y) (by omega)
  unfold pV at this
  rwa [if_neg (by omega), if_neg (by omega), Nat.add_sub_cancel_left] at this
theorem PtV.setSym {w : World} {g n : Nat} {G : Nat → Nat → Int} {r c : Nat → Nat} (h : PtV w g n G r c) {x y : Nat} (hx : x < 10) (hy : y < 10) (z : Int) : PtV (w.setCell ⟨g, 1 + x * 10 + y, none⟩ (.int .i64 z)) g n (upd2 G x y z) r c :=
  (Va.set h (1 + x * 10 + y) _).congr fun i hi => by
    unfold updV pV
    by_cases e : i = 1 + x * 10 + y
    · rw [if_pos e, if_pos (by omega), e, sqC_at _ _ hy]
      unfold upd2
      rw [if_pos ⟨rfl, rfl⟩]
    · rw [if_neg e]
      by_cases k : i < 101
      · rw [if_pos k, if_pos k]
        congr 1
        rw [← sqC_upd n G z hy]
        unfold updI
        rw [if_neg e]
      · rw [if_neg k, if_neg k]
theorem PtV.setRow {w : World} {g n : Nat} {G : Nat → Nat → Int} {r c : Nat → Nat} (h : PtV w g n G r c) {x : Nat} (hx : x < 10) (z : Nat) : PtV (w.setCell ⟨g, 101 + x, none⟩ (.int .u32 (z : Int))) g n G (updN r x z) c :=
  (Va.set h (101 + x) _).congr fun i hi => by
    unfold updV pV
    by_cases e : i = 101 + x
    · rw [if_pos e, if_neg (by omega), if_pos (by omega)]
      unfold updN
      rw [if_pos (by omega)]
    · rw [if_neg e]
      by_cases k : i < 101
      · rw [if_pos k, if_pos k]
      · rw [if_neg k, if_neg k]
        by_cases q : i < 111
        · rw [if_pos q, if_pos q]
          unfold updN
          rw [if_neg (by omega)]
        · rw [if_neg q, if_neg q]
theorem PtV.setCol {w : World} {g n : Nat} {G : Nat → Nat → Int} {r c : Nat → Nat} (h : PtV w g n G r c) {y : Nat} (hy : y < 10) (z : Nat) : PtV (w.setCell ⟨g, 111 + y, none⟩ (.int .u32 (z : Int))) g n G r (updN c y z) :=
  (Va.set h (111 + y) _).congr fun i hi => by
    unfold updV pV
    by_cases e : i = 111 + y
    · rw [if_pos e, if_neg (by omega), if_neg (by omega)]
      unfold updN
      rw [if_pos (by omega)]
    · rw [if_neg e]
      by_cases k : i < 101
      · rw [if_pos k, if_pos k]
      · rw [if_neg k, if_neg k]
        by_cases q : i < 111
        · rw [if_pos q, if_pos q]
        · rw [if_neg q, if_neg q]
          unfold updN
          rw [if_neg (by omega)]
theorem PtV.below {w w' : World} {B g n : Nat} {G : Nat → Nat → Int} {r c : Nat → Nat} (h : PtV w g n G r c) (hb : Below B w w') (hg : g < B) : PtV w' g n G r c := Va.below h hb hg
theorem PtV.lt {w : World} {g n : Nat} {G : Nat → Nat → Int} {r c : Nat → Nat} (h : PtV w g n G r c) : g < w.heap.size := Va.lt h
theorem PtV.frozen {w : World} {g n : Nat} {G : Nat → Nat → Int} {r c : Nat → Nat} (h : PtV w g n G r c) (i : Nat) : w.frozen? ⟨g, i, none⟩ = false := Va.frozen h i
/-- A block that holds a partial square with its symbols. -/
def PtAt (w : World) (g n : Nat) (G : Nat → Nat → Int) : Prop := ∃ r c, PtV w g n G r c ∧ RowB n G r ∧ ColB n G c
theorem PtAt.below {w w' : World} {B g n : Nat} {G : Nat → Nat → Int} (h : PtAt w g n G) (hb : Below B w w') (hg : g < B) : PtAt w' g n G := by
  obtain ⟨r, c, h1, h2, h3⟩ := h
  exact ⟨r, c, h1.below hb hg, h2, h3⟩
theorem PtAt.lt {w : World} {g n : Nat} {G : Nat → Nat → Int} (h : PtAt w g n G) : g < w.heap.size := by
  obtain ⟨r, c, h1, -⟩ := h
  exact h1.lt
end Go.Proofs.YtigcgpgkpkoodaaDoor
