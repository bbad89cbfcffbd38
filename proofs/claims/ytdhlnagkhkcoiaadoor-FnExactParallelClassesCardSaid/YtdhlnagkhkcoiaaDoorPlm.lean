/- Parallel lines: counting; the least of a class; the classes. Mathematics alone. -/
import Derived.Test.YtdhlnagkhkcoiaaDoorOcm
namespace Go.Proofs.YtdhlnagkhkcoiaaDoor
open Go.RowKit
set_option linter.unusedVariables false
set_option linter.unusedSimpArgs false

/-! ### Sums -/
def sm : Nat → (Nat → Nat) → Nat
  | 0, _ => 0
  | n + 1, f => sm n f + f n
theorem sm_congr {f h : Nat → Nat} : ∀ {n}, (∀ i, i < n → f i = h i) → sm n f = sm n h
  | 0, _ => rfl
  | n + 1, e => by rw [sm, sm, sm_congr (fun i hi => e i (by omega)), e n (by omega)]
theorem sm_le {f h : Nat → Nat} : ∀ {n}, (∀ i, i < n → f i ≤ h i) → sm n f ≤ sm n h
  | 0, _ => Nat.le_refl _
  | n + 1, e => by
    have := sm_le (n := n) (fun i hi => e i (by omega))
    have := e n (by omega)
    rw [sm, sm]; omega
theorem sm_lt1 {f h : Nat → Nat} {a : Nat} : ∀ {n}, (∀ i, i < n → f i ≤ h i) → a < n → f a < h a → sm n f + 1 ≤ sm n h
  | 0, _, ha, _ => by omega
  | n + 1, e, ha, hl => by
    rw [sm, sm]
    by_cases c : a = n
    · subst c
      have := sm_le (n := a) (fun i hi => e i (by omega))
      omega
    · have := sm_lt1 (n := n) (fun i hi => e i (by omega)) (by omega) hl
      have := e n (by omega)
      omega
theorem sm_lt2 {f h : Nat → Nat} {a b : Nat} (hab : a ≠ b) : ∀ {n}, (∀ i, i < n → f i ≤ h i) → a < n → b < n → f a < h a → f b < h b → sm n f + 2 ≤ sm n h
  | 0, _, ha, _, _, _ => by omega
  | n + 1, e, ha, hb, hl, hr => by
    rw [sm, sm]
    have en := e n (by omega)
    by_cases c : a = n
    · subst c
      have := sm_lt1 (n := a) (a := b) (fun i hi => e i (by omega)) (by omega) hr
      omega
    · by_cases c' : b = n
      · subst c'
        have := sm_lt1 (n := b) (a := a) (fun i hi => e i (by omega)) (by omega) hl
        omega
      · have := sm_lt2 hab (n := n) (fun i hi => e i (by omega)) (by omega) (by omega) hl hr
        omega
theorem sm_zero : ∀ n, sm n (fun _ => 0) = 0
  | 0 => rfl
  | n + 1 => by rw [sm, sm_zero n]
theorem sm_add (f h : Nat → Nat) : ∀ n, sm n (fun i => f i + h i) = sm n f + sm n h
  | 0 => rfl
  | n + 1 => by rw [sm, sm, sm, sm_add f h n]; omega
theorem sm_mul (f : Nat → Nat) (c : Nat) : ∀ n, sm n (fun i => f i * c) = sm n f * c
  | 0 => by simp [sm]
  | n + 1 => by rw [sm, sm, sm_mul f c n, Nat.add_mul]
theorem sm_swap (f : Nat → Nat → Nat) (m : Nat) : ∀ n, sm n (fun x => sm m (fun i => f i x)) = sm m (fun i => sm n (fun x => f i x))
  | 0 => (sm_zero m).symm
  | n + 1 => by
    rw [sm, sm_swap f m n, ← sm_add]
    rfl
theorem cnt_sm (P : Nat → Bool) : ∀ n, cnt n P = sm n (fun i => if P i then 1 else 0)
  | 0 => rfl
  | n + 1 => by rw [cnt, sm, cnt_sm P n]
theorem sm_ones {f : Nat → Nat} : ∀ {n}, (∀ x, x < n → f x = 1) → sm n f = n
  | 0, _ => rfl
  | n + 1, e => by rw [sm, sm_ones (fun x hx => e x (by omega)), e n (by omega)]
theorem sm_but {f : Nat → Nat} {p a : Nat} (hf : f p = a) : ∀ {n}, p < n → (∀ x, x < n → x ≠ p → f x = 1) → sm n f + 1 = n + a
  | 0, hp, _ => by omega
  | n + 1, hp, e => by
    rw [sm]
    by_cases c : p = n
    · subst c
      rw [sm_ones (fun x hx => e x (by omega) (by omega)), hf]; omega
    · have := sm_but hf (n := n) (by omega) (fun x hx hne => e x (by omega) hne)
      rw [e n (by omega) (fun h => c h.symm)]; omega
theorem cnt_pos {P : Nat → Bool} : ∀ {n}, 1 ≤ cnt n P → ∃ x, x < n ∧ P x = true
  | 0, h => by simp [cnt] at h
  | n + 1, h => by
    cases hp : P n with
    | true => exact ⟨n, by omega, hp⟩
    | false =>
      rw [cnt, hp] at h
      obtain ⟨x, hx, e⟩ := cnt_pos (n := n) (by simpa using h)
      exact ⟨x, by omega, e⟩
theorem cnt_two {P : Nat → Bool} : ∀ {n}, 2 ≤ cnt n P → ∃ x y, x < n ∧ y < n ∧ x ≠ y ∧ P x = true ∧ P y = true
  | 0, h => by simp [cnt] at h
  | n + 1, h => by
    cases hp : P n with
    | true =>
      rw [cnt, hp] at h
      obtain ⟨x, hx, e⟩ := cnt_pos (P := P) (n := n) (by simp at h; omega)
      exact ⟨x, n, by omega, by omega, by omega, e, hp⟩
    | false =>
      rw [cnt, hp] at h
      obtain ⟨x, y, hx, hy, h1, h2, h3⟩ := cnt_two (P := P) (n := n) (by simpa using h)
      exact ⟨x, y, by omega, by omega, h1, h2, h3⟩
theorem two_cnt {P : Nat → Bool} {m i j : Nat} (hij : i ≠ j) (hi : i < m) (hj : j < m) (h1 : P i = true) (h2 : P j = true) : 2 ≤ cnt m P := by
  rw [cnt_sm]
  have := sm_lt2 (f := fun _ => 0) (h := fun i => if P i then 1 else 0) hij (n := m) (fun _ _ => Nat.zero_le _) hi hj (by simp [h1]) (by simp [h2])
  rw [sm_zero] at this
  exact this

/-! ### Affine planes -/
structure Aff (n m k : Nat) (P : Nat → Nat → Bool) : Prop where
  sq : n = k * k
  two : 2 ≤ k
  size : ∀ i, i < m → cnt n (P i) = k
  one : ∀ x y, x < n → y < n → x ≠ y → cnt m (fun i => P i x && P i y) = 1
/-- Equal, or without a common point. -/
def prl (n : Nat) (P : Nat → Nat → Bool) (i j : Nat) : Prop := i = j ∨ ∀ x, x < n → ¬ (P i x = true ∧ P j x = true)
theorem prl_symm {n : Nat} {P : Nat → Nat → Bool} {i j : Nat} (h : prl n P i j) : prl n P j i := by
  rcases h with rfl | h
  · exact .inl rfl
  · exact .inr fun x hx q => h x hx ⟨q.2, q.1⟩
theorem Aff.trans {n m k : Nat} {P : Nat → Nat → Bool} (h : Aff n m k P) {a c b : Nat} (ha : a < m) (hc : c < m) (hb : b < m) (h1 : prl n P a c) (h2 : prl n P c b) : prl n P a b := by
  rcases h1 with rfl | h1
  · exact h2
  rcases h2 with rfl | h2
  · exact .inr h1
  by_cases hab : a = b
  · exact .inl hab
  refine .inr fun p hp ⟨pa, pb⟩ => ?_
  have pc : P c p = false := by
    cases e : P c p with
    | false => rfl
    | true => exact absurd ⟨pa, e⟩ (h1 p hp)
  obtain ⟨r, hr⟩ : ∃ r, cnt m (fun i => P i p) = r := ⟨_, rfl⟩
  -- all points, by the lines through p
  have A : r * k + 1 = n + r := by
    have e1 : sm n (fun x => sm m (fun i => if P i p && P i x then 1 else 0)) + 1 = n + r := by
      refine sm_but (p := p) ?_ hp (fun x hx hne => ?_)
      · rw [← cnt_sm, ← hr]
        exact cnt_congr fun i _ => by rw [Bool.and_self]
      · rw [← cnt_sm]; exact h.one p x hp hx (fun e => hne e.symm)
    rw [sm_swap (fun i x => if P i p && P i x then 1 else 0)] at e1
    have e2 : sm m (fun i => sm n (fun x => if P i p && P i x then 1 else 0)) = r * k := by
      rw [← hr, cnt_sm, ← sm_mul]
      refine sm_congr fun i hi => ?_
      cases e : P i p with
      | true =>
        have := h.size i hi
        rw [cnt_sm] at this
        simp [this]
      | false => simp [sm_zero]
    rw [e2] at e1
    exact e1
  -- the points of the line c, by the lines through p
  have Bk : k + 2 ≤ r := by
    have e1 : sm n (fun x => sm m (fun i => if P c x && (P i p && P i x) then 1 else 0)) = k := by
      rw [← h.size c hc, cnt_sm]
      refine sm_congr fun x hx => ?_
      cases e : P c x with
      | true =>
        have : x ≠ p := fun e2 => by rw [e2, pc] at e; cases e
        have := h.one p x hp hx (fun e => this e.symm)
        rw [cnt_sm] at this
        simpa using this
      | false => simp [sm_zero]
    rw [sm_swap (fun i x => if P c x && (P i p && P i x) then 1 else 0)] at e1
    rw [← e1, ← hr, cnt_sm (fun i => P i p)]
    have E : ∀ i, sm n (fun x => if P c x && (P i p && P i x) then 1 else 0) = if P i p then cnt n (fun x => P c x && P i x) else 0 := fun i => by
      cases e : P i p with
      | false => exact (sm_congr (h := fun _ => 0) fun x _ => by simp).trans (sm_zero n)
      | true => rw [if_pos rfl, cnt_sm]; exact sm_congr fun x _ => by simp
    have Z : ∀ i, (∀ x, x < n → ¬ (P c x = true ∧ P i x = true)) → cnt n (fun x => P c x && P i x) = 0 := fun i hz => by
      rw [cnt_sm]
      refine (sm_congr (h := fun _ => 0) fun x hx => ?_).trans (sm_zero n)
      have := hz x hx
      cases q1 : P c x <;> cases q2 : P i x <;> simp_all
    refine sm_lt2 hab (fun i hi => ?_) ha hb ?_ ?_
    · show sm n (fun x => if P c x && (P i p && P i x) then 1 else 0) ≤ _
      rw [E i]
      cases e : P i p with
      | false => simp
      | true =>
        simp only [if_true]
        by_cases q : 2 ≤ cnt n (fun x => P c x && P i x)
        · obtain ⟨x, y, hx, hy, hne, q1, q2⟩ := cnt_two q
          simp only [Bool.and_eq_true] at q1 q2
          have ic : i ≠ c := fun e2 => by rw [e2, pc] at e; cases e
          have := two_cnt (P := fun j => P j x && P j y) ic hi hc (by simp [q1.2, q2.2]) (by simp [q1.1, q2.1])
          have := h.one x y hx hy hne
          omega
        · omega
    · show sm n (fun x => if P c x && (P a p && P a x) then 1 else 0) < _
      rw [E a, pa, Z a (fun x hx q => h1 x hx ⟨q.2, q.1⟩)]
      simp
    · show sm n (fun x => if P c x && (P b p && P b x) then 1 else 0) < _
      rw [E b, pb, Z b (fun x hx q => h2 x hx q)]
      simp
  have sq := h.sq
  have two := h.two
  obtain ⟨t, rfl⟩ : ∃ t, r = k + 2 + t := ⟨r - (k + 2), by omega⟩
  have tk : t * 2 ≤ t * k := Nat.mul_le_mul_left t two
  rw [Nat.add_mul, Nat.add_mul, sq] at A
  omega

/-! ### The least of a class -/
/-- A relation that is an equivalence below m. -/
structure Equ (m : Nat) (Q : Nat → Nat → Bool) : Prop where
  refl : ∀ i, Q i i = true
  symm : ∀ i j, Q i j = true → Q j i = true
  trans : ∀ i j l, i < m → j < m → l < m → Q i j = true → Q j l = true → Q i l = true
def ldr (Q : Nat → Nat → Bool) (i : Nat) : Nat := (List.range i).findIdx (fun j => Q j i)
theorem ldr_le (Q : Nat → Nat → Bool) (i : Nat) : ldr Q i ≤ i := by
  have := List.findIdx_le_length (p := fun j => Q j i) (xs := List.range i)
  simpa [ldr] using this
theorem ldr_rel {m : Nat} {Q : Nat → Nat → Bool} (h : Equ m Q) (i : Nat) : Q (ldr Q i) i = true := by
  by_cases c : ldr Q i < i
  · have := List.findIdx_getElem (p := fun j => Q j i) (xs := List.range i) (w := by simpa [ldr] using c)
    simpa [ldr] using this
  · have : ldr Q i = i := by have := ldr_le Q i; omega
    rw [this]; exact h.refl i
theorem ldr_not (Q : Nat → Nat → Bool) {i j : Nat} (hj : j < ldr Q i) : Q j i = false := by
  have := List.not_of_lt_findIdx (p := fun j => Q j i) (xs := List.range i) (i := j) hj
  simpa using this
theorem ldr_min {m : Nat} {Q : Nat → Nat → Bool} {i j : Nat} (h : Q j i = true) : ldr Q i ≤ j := by
  by_cases c : j < ldr Q i
  · rw [ldr_not Q c] at h; cases h
  · omega
theorem ldr_same {m : Nat} {Q : Nat → Nat → Bool} (h : Equ m Q) {i j : Nat} (hi : i < m) (hj : j < m) (hq : Q i j = true) : ldr Q i = ldr Q j := by
  have li := ldr_le Q i
  have lj := ldr_le Q j
  have a := h.trans (ldr Q i) i j (by omega) hi hj (ldr_rel h i) hq
  have b := h.trans (ldr Q j) j i (by omega) hj hi (ldr_rel h j) (h.symm _ _ hq)
  have := ldr_min (m := m) a
  have := ldr_min (m := m) b
  omega
theorem ldr_rep {m : Nat} {Q : Nat → Nat → Bool} (h : Equ m Q) {i : Nat} (hi : i < m) : ldr Q (ldr Q i) = ldr Q i :=
  ldr_same h (by have := ldr_le Q i; omega) hi (ldr_rel h i)
theorem ldr_iff {m : Nat} {Q : Nat → Nat → Bool} (h : Equ m Q) {i j : Nat} (hi : i < m) (hj : j < m) : Q i j = true ↔ ldr Q i = ldr Q j :=
  ⟨ldr_same h hi hj, fun e => by
    have li := ldr_le Q i
    have a := ldr_rel h i
    have b := ldr_rel h j
    rw [← e] at b
    exact h.trans i _ j hi (by omega) hj (h.symm _ _ a) b⟩

/-! ### The classes -/
/-- The least ones below i. -/
def ldrs (Q : Nat → Nat → Bool) (i : Nat) : List Nat := (List.range i).filter (fun r => ldr Q r == r)
/-- The place of a least one. -/
def plc (Q : Nat → Nat → Bool) (r : Nat) : Nat := cnt r (fun x => ldr Q x == x)
def rowP (Q : Nat → Nat → Bool) (i r : Nat) : List Int := fls i (fun x => ldr Q x == r)
/-- The classes of the numbers below i. -/
def clsL (Q : Nat → Nat → Bool) (i : Nat) : List (List Int) := (ldrs Q i).map (rowP Q i)
theorem ldrs_succ (Q : Nat → Nat → Bool) (i : Nat) : ldrs Q (i + 1) = ldrs Q i ++ (if ldr Q i = i then [i] else []) := by
  unfold ldrs
  rw [List.range_succ, List.filter_append]
  congr 1
  by_cases c : ldr Q i = i
  · simp [c]
  · simp [c]
theorem ldrs_len (Q : Nat → Nat → Bool) : ∀ i, (ldrs Q i).length = plc Q i
  | 0 => rfl
  | i + 1 => by
    rw [ldrs_succ, List.length_append, ldrs_len Q i]
    unfold plc
    rw [cnt]
    congr 1
    by_cases c : ldr Q i = i
    · simp [c]
    · simp [c]
theorem plc_mono (Q : Nat → Nat → Bool) {r i : Nat} (h : r ≤ i) : plc Q r ≤ plc Q i := by
  obtain ⟨t, rfl⟩ : ∃ t, i = r + t := ⟨i - r, by omega⟩
  unfold plc
  rw [cnt_add]; omega
theorem plc_lt (Q : Nat → Nat → Bool) {r i : Nat} (h : r < i) (hr : ldr Q r = r) : plc Q r < plc Q i := by
  have := plc_mono Q (show r + 1 ≤ i by omega)
  have e : plc Q (r + 1) = plc Q r + 1 := by unfold plc; rw [cnt]; simp [hr]
  omega
theorem plc_le (Q : Nat → Nat → Bool) (i : Nat) : plc Q i ≤ i := cnt_le _ _
theorem ldrs_get (Q : Nat → Nat → Bool) : ∀ i r, r < i → ldr Q r = r → (ldrs Q i)[plc Q r]? = some r
  | 0, r, h, _ => by omega
  | i + 1, r, h, hr => by
    rw [ldrs_succ]
    by_cases c : r = i
    · subst c
      rw [if_pos hr, List.getElem?_append_right (by rw [ldrs_len]; exact Nat.le_refl _), ldrs_len]
      simp
    · have hl := plc_lt Q (show r < i by omega) hr
      rw [List.getElem?_append_left (by rw [ldrs_len]; exact hl)]
      exact ldrs_get Q i r (by omega) hr
theorem ldrs_mem {Q : Nat → Nat → Bool} {i r : Nat} (h : r ∈ ldrs Q i) : r < i ∧ ldr Q r = r := by
  unfold ldrs at h
  rw [List.mem_filter, List.mem_range] at h
  exact ⟨h.1, by simpa using h.2⟩
theorem clsL_len (Q : Nat → Nat → Bool) (i : Nat) : (clsL Q i).length = plc Q i := by unfold clsL; rw [List.length_map, ldrs_len]
theorem rowP_succ (Q : Nat → Nat → Bool) (i r : Nat) : rowP Q (i + 1) r = rowP Q i r ++ (if ldr Q i = r then [(i : Int)] else []) := by
  unfold rowP
  rw [fls_succ]
  by_cases c : ldr Q i = r
  · simp [c]
  · simp [c]
theorem clsL_new {Q : Nat → Nat → Bool} {i : Nat} (h : ldr Q i = i) : clsL Q (i + 1) = clsL Q i ++ [[(i : Int)]] := by
  unfold clsL
  rw [ldrs_succ, if_pos h, List.map_append]
  congr 1
  · refine List.map_congr_left fun r hr => ?_
    rw [rowP_succ, if_neg (by have := (ldrs_mem hr).1; omega), List.append_nil]
  · have e : rowP Q i i = [] := by
      unfold rowP fls
      rw [show (List.range i).filter (fun x => ldr Q x == i) = [] from List.filter_eq_nil_iff.2 fun x hx => by
        have := ldr_le Q x
        have := List.mem_range.1 hx
        simp; omega]
      rfl
    simp [rowP_succ, h, e]
theorem clsL_get {Q : Nat → Nat → Bool} {i r : Nat} (h : r < i) (hr : ldr Q r = r) : (clsL Q i)[plc Q r]? = some (rowP Q i r) := by
  unfold clsL
  rw [List.getElem?_map, ldrs_get Q i r h hr]; rfl
theorem ldrs_at {Q : Nat → Nat → Bool} : ∀ {i k : Nat}, k < plc Q i → ∃ r, (ldrs Q i)[k]? = some r ∧ r < i ∧ ldr Q r = r ∧ plc Q r = k
  | 0, k, hk => by simp [plc, cnt] at hk
  | i + 1, k, hk => by
    have e : plc Q (i + 1) = plc Q i + if ldr Q i = i then 1 else 0 := by unfold plc; rw [cnt]; congr 1; simp
    rw [ldrs_succ]
    by_cases c : k < plc Q i
    · obtain ⟨r, h1, h2, h3, h4⟩ := ldrs_at c
      exact ⟨r, by rw [List.getElem?_append_left (by rw [ldrs_len]; exact c)]; exact h1, by omega, h3, h4⟩
    · by_cases d : ldr Q i = i
      · rw [if_pos d] at e
        obtain rfl : k = plc Q i := by omega
        refine ⟨i, ?_, by omega, d, rfl⟩
        rw [if_pos d, List.getElem?_append_right (by rw [ldrs_len]; exact Nat.le_refl _), ldrs_len]
        simp
      · rw [if_neg d] at e
        omega
theorem clsL_old {Q : Nat → Nat → Bool} {i r : Nat} (hr : ldr Q i = r) (hri : r < i) (hrr : ldr Q r = r) : clsL Q (i + 1) = (clsL Q i).set (plc Q r) ((clsL Q i).getD (plc Q r) [] ++ [(i : Int)]) := by
  have g := clsL_get hri hrr
  have e : (clsL Q i).getD (plc Q r) [] = rowP Q i r := by rw [List.getD_eq_getElem?_getD, g]; rfl
  rw [e]
  have hne : ¬ ldr Q i = i := by omega
  apply List.ext_getElem?
  intro k
  have lk : plc Q r < (clsL Q i).length := by rw [clsL_len]; exact plc_lt Q hri hrr
  have er : ldrs Q (i + 1) = ldrs Q i := by rw [ldrs_succ, if_neg hne, List.append_nil]
  rw [List.getElem?_set]
  by_cases c : plc Q r = k
  · subst c
    rw [if_pos rfl, if_pos lk]
    unfold clsL
    rw [List.getElem?_map, er, ldrs_get Q i r hri hrr]
    simp [rowP_succ, hr]
  · rw [if_neg c]
    unfold clsL
    rw [List.getElem?_map, List.getElem?_map, er]
    by_cases hk : k < plc Q i
    · obtain ⟨s, hs, h1, h2, h3⟩ := ldrs_at hk
      rw [hs]
      have : ¬ ldr Q i = s := fun e => c (by rw [← h3, ← e, hr])
      simp [rowP_succ, this]
    · rw [List.getElem?_eq_none (by rw [ldrs_len]; omega)]; rfl
theorem clsL_head {Q : Nat → Nat → Bool} {m i k : Nat} (h : Equ m Q) (hi : i ≤ m) (hk : k < (clsL Q i).length) : ∃ r, r < i ∧ ldr Q r = r ∧ plc Q r = k ∧ (clsL Q i).getD k [] = rowP Q i r ∧ (rowP Q i r).getD 0 0 = (r : Int) ∧ 0 < (rowP Q i r).length := by
  rw [clsL_len] at hk
  obtain ⟨r, hr, h1, h2, h3⟩ := ldrs_at hk
  have g := clsL_get h1 h2
  rw [h3] at g
  refine ⟨r, h1, h2, h3, by rw [List.getD_eq_getElem?_getD, g]; rfl, ?_, ?_⟩
  · -- the first of a class is its least one
    obtain ⟨t, rfl⟩ : ∃ t, i = (r + 1) + t := ⟨i - (r + 1), by omega⟩
    have key : ∀ t, ∃ zs, rowP Q (r + 1 + t) r = (r : Int) :: zs := fun t => by
      induction t with
      | zero =>
        refine ⟨[], ?_⟩
        have e : rowP Q r r = [] := by
          unfold rowP fls
          rw [show (List.range r).filter (fun x => ldr Q x == r) = [] from List.filter_eq_nil_iff.2 fun x hx => by
            have := ldr_le Q x
            have := List.mem_range.1 hx
            simp; omega]
          rfl
        rw [Nat.add_zero, rowP_succ, e, if_pos h2]; rfl
      | succ t ih =>
        obtain ⟨zs, e⟩ := ih
        rw [← Nat.add_assoc, rowP_succ, e]
        exact ⟨_, rfl⟩
    obtain ⟨zs, e⟩ := key t
    rw [e]; rfl
  · have : (r : Int) ∈ rowP Q i r := (fls_mem _ _ _).2 ⟨r, h1, by simp [h2], rfl⟩
    exact List.length_pos_of_mem this
theorem rowP_len (Q : Nat → Nat → Bool) (i r : Nat) : (rowP Q i r).length ≤ i := fls_len _ _
end Go.Proofs.YtdhlnagkhkcoiaaDoor
