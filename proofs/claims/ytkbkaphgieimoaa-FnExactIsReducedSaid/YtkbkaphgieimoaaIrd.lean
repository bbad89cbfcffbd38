/- IsReduced: what it says; the model. -/
import Derived.Test.YtkbkaphgieimoaaRds
import Derived.Test.YtkbkaphgieimoaaSyc
namespace Go.Proofs.Ytkbkaphgieimoaa
open Go.RowKit Go.Shelf
set_option linter.unusedVariables false

/-- The first row and the first column are in order. -/
def RedP (n : Nat) (f : Nat → Nat → Int) : Prop := ∀ i : Nat, i < n → f 0 i = (i : Int) ∧ f i 0 = (i : Int)
noncomputable def redB (n : Nat) (f : Nat → Nat → Int) : Bool := @decide (RedP n f) (Classical.propDecidable _)
theorem redB_true {n : Nat} {f : Nat → Nat → Int} (h : RedP n f) : redB n f = true := @decide_eq_true _ (Classical.propDecidable _) h
theorem redB_false {n : Nat} {f : Nat → Nat → Int} (h : ¬ RedP n f) : redB n f = false := @decide_eq_false _ (Classical.propDecidable _) h
noncomputable def IsReduced_0 (xss : List (List Int)) : Bool := sqB xss && redB xss.length (cellF xss)

theorem rowSt_from {mv : Nat → Nat → Nat × Nat × Int} {x : Nat} {f : Nat → Nat → Int} {a b : Nat} : ∀ y, (∃ b', b' < y ∧ mv x b' = (a, b, rowSt mv x f y a b)) ∨ ((∀ b', b' < y → ¬ ((mv x b').1 = a ∧ (mv x b').2.1 = b)) ∧ rowSt mv x f y a b = f a b)
  | 0 => Or.inr ⟨fun _ h => by omega, rfl⟩
  | y + 1 => by
    have e : rowSt mv x f (y + 1) = upd2 (rowSt mv x f y) (mv x y).1 (mv x y).2.1 (mv x y).2.2 := rfl
    rw [e]
    by_cases c : a = (mv x y).1 ∧ b = (mv x y).2.1
    · left
      refine ⟨y, by omega, ?_⟩
      unfold upd2
      rw [if_pos c]
      exact Prod.ext c.1.symm (Prod.ext c.2.symm rfl)
    · have e2 : upd2 (rowSt mv x f y) (mv x y).1 (mv x y).2.1 (mv x y).2.2 a b = rowSt mv x f y a b := by unfold upd2; rw [if_neg c]
      rw [e2]
      rcases rowSt_from (mv := mv) (x := x) (f := f) (a := a) (b := b) y with ⟨b', h1, h2⟩ | ⟨h1, h2⟩
      · exact Or.inl ⟨b', by omega, h2⟩
      · refine Or.inr ⟨fun b' hb hh => ?_, h2⟩
        by_cases q : b' = y
        · subst q; exact c ⟨hh.1.symm, hh.2.symm⟩
        · exact h1 b' (by omega) hh
theorem movSt_from {n : Nat} {mv : Nat → Nat → Nat × Nat × Int} {a b : Nat} : ∀ x, (∃ x' y', x' < x ∧ y' < n ∧ mv x' y' = (a, b, movSt n mv x a b)) ∨ ((∀ x' y', x' < x → y' < n → ¬ ((mv x' y').1 = a ∧ (mv x' y').2.1 = b)) ∧ movSt n mv x a b = 0)
  | 0 => Or.inr ⟨fun _ _ h => by omega, rfl⟩
  | x + 1 => by
    have e : movSt n mv (x + 1) = rowSt mv x (movSt n mv x) n := rfl
    rw [e]
    rcases rowSt_from (mv := mv) (x := x) (f := movSt n mv x) (a := a) (b := b) n with ⟨b', h1, h2⟩ | ⟨h1, h2⟩
    · exact Or.inl ⟨x, b', by omega, h1, h2⟩
    · rw [h2]
      rcases movSt_from (n := n) (mv := mv) (a := a) (b := b) x with ⟨x', y', p1, p2, p3⟩ | ⟨p1, p2⟩
      · exact Or.inl ⟨x', y', by omega, p2, p3⟩
      · refine Or.inr ⟨fun x' y' q1 q2 hh => ?_, p2⟩
        by_cases q : x' = x
        · subst q; exact h1 y' q2 hh
        · exact p1 x' y' (by omega) q2 hh
theorem movSt_hit {n : Nat} {mv : Nat → Nat → Nat × Nat × Int} {x y : Nat} (hx : x < n) (hy : y < n) : ∃ x' y', x' < n ∧ y' < n ∧ mv x' y' = ((mv x y).1, (mv x y).2.1, movSt n mv n (mv x y).1 (mv x y).2.1) := by
  rcases movSt_from (n := n) (mv := mv) (a := (mv x y).1) (b := (mv x y).2.1) n with h | ⟨h, _⟩
  · exact h
  · exact absurd ⟨rfl, rfl⟩ (h x y hx hy)
theorem movSt_out {n : Nat} {mv : Nat → Nat → Nat × Nat × Int} {a b : Nat} (h : ∀ x y, x < n → y < n → (mv x y).1 < n ∧ (mv x y).2.1 < n) (hab : ¬ (a < n ∧ b < n)) : movSt n mv n a b = 0 := by
  rcases movSt_from (n := n) (mv := mv) (a := a) (b := b) n with ⟨x', y', h1, h2, h3⟩ | ⟨_, h⟩
  · have := h x' y' h1 h2
    rw [h3] at this
    exact absurd this hab
  · exact h
theorem ord_at {n : Nat} {f : Nat → Nat → Int} (hf : InSq n f) (hr : ∀ a b, a < n → b < n → f 0 a = f 0 b → a = b) {x y : Nat} (hx : x < n) (hy : y < n) : ordF n f x (f 0 y).toNat = f x y := by
  obtain ⟨x', y', h1, h2, h3⟩ := movSt_hit (n := n) (mv := redMv1 f) hx hy
  unfold redMv1 at h3
  have a1 := congrArg (fun p : Nat × Nat × Int => p.1) h3
  have a2 := congrArg (fun p : Nat × Nat × Int => p.2.1) h3
  have a3 := congrArg (fun p : Nat × Nat × Int => p.2.2) h3
  dsimp only at a1 a2 a3
  have := hf 0 y (by omega) hy
  have := hf 0 y' (by omega) h2
  have : y' = y := hr y' y h2 hy (by omega)
  subst a1 this
  exact a3.symm
theorem ordF_out {n : Nat} {f : Nat → Nat → Int} (hf : InSq n f) {a b : Nat} (h : ¬ (a < n ∧ b < n)) : ordF n f a b = 0 :=
  movSt_out (fun x y hx hy => by have := hf 0 y (by omega) hy; unfold redMv1; dsimp only; omega) h
theorem redF_out {n : Nat} {f : Nat → Nat → Int} (h1 : 1 ≤ n) (hf : InSq n f) {a b : Nat} (h : ¬ (a < n ∧ b < n)) : redF n f a b = 0 :=
  movSt_out (fun x y hx hy => by have := ordF_in h1 hf x 0; unfold redMv2; dsimp only; omega) h
theorem red_of {n : Nat} {f : Nat → Nat → Int} (hf : InSq n f) (h : RedP n f) {x y : Nat} (hx : x < n) (hy : y < n) : redF n f x y = f x y := by
  have hr : ∀ a b, a < n → b < n → f 0 a = f 0 b → a = b := fun a b ha hb e => by rw [(h a ha).1, (h b hb).1] at e; omega
  have ho : ∀ a b, a < n → b < n → ordF n f a b = f a b := fun a b ha hb => by
    have := ord_at hf hr ha hb
    rw [(h b hb).1] at this
    simpa using this
  obtain ⟨x', y', h1, h2, h3⟩ := movSt_hit (n := n) (mv := redMv2 (ordF n f)) hx hy
  unfold redMv2 at h3
  have a1 := congrArg (fun p : Nat × Nat × Int => p.1) h3
  have a2 := congrArg (fun p : Nat × Nat × Int => p.2.1) h3
  have a3 := congrArg (fun p : Nat × Nat × Int => p.2.2) h3
  dsimp only at a1 a2 a3
  rw [ho x' 0 h1 (by omega), ho x 0 hx (by omega), (h x' h1).2, (h x hx).2] at a1
  have e : x' = x := by omega
  subst e a2
  rw [ho x' 0 h1 (by omega), (h x' h1).2, ho x' y' h1 h2] at a3
  rw [a3]
  simp only [Int.toNat_natCast]
  rfl
theorem of_red {n : Nat} {f : Nat → Nat → Int} (hf : InSq n f) (hr : ∀ a b, a < n → b < n → f 0 a = f 0 b → a = b) (hs : ∀ s : Nat, s < n → ∃ y, y < n ∧ f 0 y = (s : Int))
    (hc : ∀ y s : Nat, y < n → s < n → ∃ x, x < n ∧ f x y = (s : Int)) (h : ∀ x y, x < n → y < n → redF n f x y = f x y) : RedP n f := by
  have key : ∀ x y, x < n → y < n → ∃ x', x' < n ∧ (ordF n f x' 0).toNat = (ordF n f x 0).toNat ∧ redF n f (ordF n f x 0).toNat y = ordF n f x' y := fun x y hx hy => by
    obtain ⟨x', y', h1, h2, h3⟩ := movSt_hit (n := n) (mv := redMv2 (ordF n f)) hx hy
    unfold redMv2 at h3
    have a1 := congrArg (fun p : Nat × Nat × Int => p.1) h3
    have a2 := congrArg (fun p : Nat × Nat × Int => p.2.1) h3
    have a3 := congrArg (fun p : Nat × Nat × Int => p.2.2) h3
    dsimp only at a1 a2 a3
    subst a2
    exact ⟨x', h1, a1, a3.symm⟩
  have col : ∀ i : Nat, i < n → f i 0 = (i : Int) := fun i hi => by
    obtain ⟨y0, hy0, e0⟩ := hs 0 (by omega)
    obtain ⟨x, hx, ex⟩ := hc y0 i hy0 hi
    have ox := ord_at hf hr hx hy0
    rw [e0] at ox
    have ox' : ordF n f x 0 = (i : Int) := ox.trans ex
    obtain ⟨x', h1, h2, h3⟩ := key x 0 hx (by omega)
    rw [ox'] at h2 h3
    have hi' : (Int.toNat (i : Int)) = i := by omega
    rw [hi'] at h2 h3
    rw [← h i 0 hi (by omega), h3]
    have := ordF_in (by omega) hf x' 0
    omega
  refine fun i hi => ⟨?_, col i hi⟩
  have f00 : f 0 0 = 0 := by have := col 0 (by omega); simpa using this
  have oc : ∀ x, x < n → ordF n f x 0 = (x : Int) := fun x hx => by
    have := ord_at hf hr hx (show 0 < n by omega)
    rw [f00] at this
    exact this.trans (col x hx)
  obtain ⟨x', h1, h2, h3⟩ := key 0 i (by omega) hi
  rw [oc x' h1, oc 0 (by omega)] at h2
  rw [oc 0 (by omega)] at h3
  have e : x' = 0 := by omega
  subst e
  have h3' : redF n f 0 i = ordF n f 0 i := h3
  rw [h 0 i (by omega) hi] at h3'
  obtain ⟨y, hy, ey⟩ := hs i hi
  have oy := ord_at hf hr (show 0 < n by omega) hy
  rw [ey] at oy
  rw [h3']
  exact oy
/-- Whether all cells of the arrays agree. -/
def eqG (c d : Nat → Int) : Bool := (List.range 10).all fun i => (List.range 10).all fun j => c (1 + i * 10 + j) == d (1 + i * 10 + j)
theorem eqG_red {xss : List (List Int)} (S : IsSq xss) {n : Nat} (hn : xss.length = n) : eqG (sqC n (sqF n (cellF xss))) (sqC n (redF n (sqF n (cellF xss)))) = redB n (cellF xss) := by
  subst hn
  rw [red_sqF]
  have IQ := S.inSq
  have lo := S.lo
  have hi := S.hi
  have r0 := S.row 0 (by omega)
  have cell0 : ∀ y, cellF xss 0 y = (xss.getD 0 []).getD y 0 := fun y => rfl
  have hr : ∀ a b, a < xss.length → b < xss.length → cellF xss 0 a = cellF xss 0 b → a = b := fun a b ha hb e => pm_inj r0.1 r0.2 ha hb e
  have hs : ∀ s : Nat, s < xss.length → ∃ y, y < xss.length ∧ cellF xss 0 y = (s : Int) := fun s h => pm_surj r0.1 r0.2 (by omega) (by omega)
  have hc : ∀ y s : Nat, y < xss.length → s < xss.length → ∃ x, x < xss.length ∧ cellF xss x y = (s : Int) := fun y s hy h => by
    obtain ⟨x, hx, e⟩ := pm_surj (colL_length xss y) (S.col y hy) (s := (s : Int)) (by omega) (by omega)
    exact ⟨x, hx, by rw [colL_getD hx] at e; exact e⟩
  have all : eqG (sqC xss.length (sqF xss.length (cellF xss))) (sqC xss.length (redF xss.length (cellF xss))) = true ↔ ∀ x y, x < 10 → y < 10 → sqF xss.length (cellF xss) x y = redF xss.length (cellF xss) x y := by
    unfold eqG
    simp only [List.all_eq_true, List.mem_range, beq_iff_eq]
    constructor
    · intro h x y hx hy
      have := h x hx y hy
      rwa [sqC_at _ _ hy, sqC_at _ _ hy] at this
    · intro h x hx y hy
      rw [sqC_at _ _ hy, sqC_at _ _ hy]
      exact h x y hx hy
  by_cases R : RedP xss.length (cellF xss)
  · rw [redB_true R]
    refine all.2 fun x y hx hy => ?_
    by_cases c : x < xss.length ∧ y < xss.length
    · rw [sqF_in _ c.1 c.2, red_of IQ R c.1 c.2]
    · rw [redF_out lo IQ c]; unfold sqF; rw [if_neg c]
  · rw [redB_false R]
    refine Bool.eq_false_iff.2 fun h => R (of_red IQ hr hs hc fun x y hx hy => ?_)
    have := all.1 h x y (by omega) (by omega)
    rw [sqF_in _ hx hy] at this
    exact this.symm

set_option maxRecDepth 100000 in
set_option maxHeartbeats 4000000 in
theorem sIsReduced (xss : List (List Int)) (hx : SmallLL xss) (w : World) (v : Value) (hv : RowsAt w v xss) :
    Calls Try.prog 46 #[v] w fun e w' => e = .returned (.bool (IsReduced_0 xss)) ∧ Below w.heap.size w w' := by
  have HS := Lib.hid (sSq w v xss hv)
  have hml := hv.1
  cases hp : sqB xss with
  | false =>
    obtain ⟨va, vk, rfl, -, -⟩ := hv.cellsOf
    have V : Hid (IsReduced_0 xss = false) := by unfold IsReduced_0; rw [hp]; rfl
    rw [hp] at HS
    clear hp hv
    go_enter Try.func46, Try.ntmps46
    go_wp2_with fail
    refine HS.out.mono ?_
    rintro e w1 ⟨rfl, b1⟩
    have B1 := Lib.hid b1
    clear b1
    go_wp2
    go_ret
    exact ⟨by rw [V.out]; rfl, B1.out⟩
  | true =>
    have S := of_sqB hp
    have V : Hid (IsReduced_0 xss = redB xss.length (cellF xss)) := by unfold IsReduced_0; rw [hp]; rfl
    have YES : Hid (RedP xss.length (cellF xss) → redB xss.length (cellF xss) = true) := fun h => redB_true h
    have NO : Hid (∀ i : Nat, i < xss.length → ¬ (cellF xss 0 i = (i : Int) ∧ cellF xss i 0 = (i : Int)) → redB xss.length (cellF xss) = false) := fun i hi h => redB_false fun k => h (k i hi)
    rw [hp] at HS
    have nhi := S.hi
    have nlo := S.lo
    have RL := S.rowLen
    obtain ⟨va, vk, rfl, K⟩ := hv.look (n := xss.length) rfl RL
    obtain ⟨n, hn⟩ : ∃ n, xss.length = n := ⟨_, rfl⟩
    rw [hn] at HS V nhi nlo K YES NO hml ⊢
    have HK := Lib.hid (fun W b x y (hx : x < n) (hy : y < n) => K W b x y hx hy)
    clear hp hv S hn RL K
    go_enter Try.func46, Try.ntmps46
    go_wp2_with fail
    refine HS.out.mono ?_
    rintro e w1 ⟨rfl, b1⟩
    have B1 := Lib.hid b1
    clear b1
    go_wp2
    go_loopw [3] (fun i wr => ∃ j : Nat, j ≤ n ∧ i = .int .i64 j ∧ Hid (∀ k : Nat, k < j → cellF xss 0 k = (k : Int) ∧ cellF xss k 0 = (k : Int)) ∧ Hid (Below w.heap.size w wr)) (fun i _ => n - (intOf i).toNat)
    case atStart => exact ⟨0, by omega, rfl, fun k hk => by omega, B1⟩
    case round =>
      obtain ⟨j, hj, rfl, hE, hBl⟩ := hrel
      by_cases c : j < n
      · have k1 : decide (j < n) = true := by simpa using c
        have k1' : decide ((j : Int) < (n : Int)) = true := decide_eq_true (by omega)
        have j0 : (0 : Int) ≤ (j : Int) := by omega
        have j1 : (j : Int) < (n : Int) := by omega
        have n1 : (0 : Int) < (n : Int) := by omega
        have w3 := IntWalk.i64_in ((j : Int) + 1) (by omega)
        obtain ⟨g, off, g2, off2, c2, rfl, m1, m2⟩ := HK.out wr hBl.out 0 j (by omega) c
        obtain ⟨g', off', g3, off3, c3, e3, m3, m4⟩ := HK.out wr hBl.out j 0 c (by omega)
        obtain ⟨rfl, rfl⟩ : g = g' ∧ off = off' := by cases e3; exact ⟨rfl, rfl⟩
        rw [Nat.add_zero] at m1 m4
        have NJ := Lib.hid (NO.out j c)
        obtain ⟨z, hz⟩ : ∃ z, cellF xss 0 j = z := ⟨_, rfl⟩
        obtain ⟨y, hy⟩ : ∃ y, cellF xss j 0 = y := ⟨_, rfl⟩
        have HZ := Lib.hid (And.intro hz hy)
        rw [hz] at m2 NJ
        rw [hy] at m4 NJ
        clear hz hy e3
        by_cases e1 : z = (j : Int)
        · by_cases e2 : y = (j : Int)
          · have t1 : (z != (j : Int)) = false := by simp [e1]
            have t2 : (y != (j : Int)) = false := by simp [e2]
            have E2 : Hid (∀ k : Nat, k < j + 1 → cellF xss 0 k = (k : Int) ∧ cellF xss k 0 = (k : Int)) := fun k hk => by
              by_cases q : k = j
              · rw [q, HZ.out.1, HZ.out.2]; exact ⟨e1, e2⟩
              · exact hE.out k (by omega)
            clear e1 e2
            go_wp2
            go_roundw
            case rel => exact ⟨j + 1, by omega, by go_num, E2, hBl⟩
            case measure => simp [intOf]; omega
          · have t1 : (z != (j : Int)) = false := by simp [e1]
            have t2 : (y != (j : Int)) = true := by simp [e2]
            have F := Lib.hid (NJ.out fun h => e2 h.2)
            clear e1 e2
            go_wp2
            go_ret
            exact ⟨by rw [V.out, F.out]; rfl, hBl.out⟩
        · have t1 : (z != (j : Int)) = true := by simp [e1]
          have F := Lib.hid (NJ.out fun h => e1 h.1)
          clear e1
          go_wp2
          go_ret
          exact ⟨by rw [V.out, F.out]; rfl, hBl.out⟩
      · have k1 : decide (j < n) = false := by simpa using c
        have k1' : decide ((j : Int) < (n : Int)) = false := decide_eq_false (by omega)
        obtain rfl : j = n := by omega
        have F := Lib.hid (YES.out hE.out)
        go_wp2
        go_ret
        exact ⟨by rw [V.out, F.out]; rfl, hBl.out⟩
end Go.Proofs.Ytkbkaphgieimoaa
