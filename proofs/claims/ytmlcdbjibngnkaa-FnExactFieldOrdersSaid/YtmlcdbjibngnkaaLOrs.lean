/- FieldOrders: both sides, and the law. -/
import Derived.Test.YtmlcdbjibngnkaaSe
import Derived.Test.YtmlcdbjibngnkaaPp
namespace Go.Proofs.Ytmlcdbjibngnkaa
open Go.RowKit
set_option linter.unusedVariables false

/-! ### Prime powers -/
def PPw (q : Nat) : Prop := ∃ r k, Pr r ∧ q = r ^ (k + 1)
theorem fac_mem {n : Nat} {xs : List Nat} (h : Fac n xs) : ∀ y ∈ xs, 2 ≤ y ∧ y ∣ n := by
  induction h with
  | one => intro y hy; simp at hy
  | @step n d xs h1 hm hf ih =>
    intro y hy
    rcases List.mem_cons.1 hy with rfl | hy
    · exact ⟨hm.1, hm.2.1⟩
    · exact ⟨(ih y hy).1, Nat.dvd_trans (ih y hy).2 (Nat.div_dvd_of_dvd hm.2.1)⟩
theorem fac_head {n d : Nat} {xs : List Nat} (h : Fac n (d :: xs)) : ∀ y ∈ d :: xs, d ≤ y := by
  intro y hy
  have h1 := fac_mem h y hy
  cases h with
  | step h0 hm hf =>
    by_cases c : d ≤ y
    · exact c
    · exact absurd h1.2 (hm.2.2 y h1.1 (by omega))
theorem fac_all {n : Nat} {xs : List Nat} (h : Fac n xs) (d : Nat) : (∀ y ∈ xs, y = d) → n = d ^ xs.length := by
  induction h with
  | one => intro _; rfl
  | @step n e xs h1 hm hf ih =>
    intro ha
    have e1 := ha e (List.mem_cons_self ..)
    have e2 := ih (fun y hy => ha y (List.mem_cons_of_mem _ hy))
    subst e1
    rw [List.length_cons, Nat.pow_succ, ← e2]
    exact (Nat.div_mul_cancel hm.2.1).symm
theorem fac_last {n : Nat} {xs : List Nat} (h : Fac n xs) : ∀ y ∈ xs, y ≤ xs.getD (xs.length - 1) 0 := by
  induction h with
  | one => intro y hy; simp at hy
  | @step n d xs h1 hm hf ih =>
    intro y hy
    have hh := fac_head (Fac.step h1 hm hf)
    cases xs with
    | nil => simp at hy; subst hy; exact Nat.le_refl _
    | cons x xs =>
      have e : (d :: x :: xs).getD ((d :: x :: xs).length - 1) 0 = (x :: xs).getD ((x :: xs).length - 1) 0 := by
        simp only [List.length_cons]
        rw [show xs.length + 1 + 1 - 1 = (xs.length + 1 - 1) + 1 by omega, List.getD_cons_succ]
      rw [e]
      rcases List.mem_cons.1 hy with rfl | hy
      · have h2 := ih x (List.mem_cons_self ..)
        have h3 := hh x (by simp)
        omega
      · exact ih y hy
theorem fac_pow {r : Nat} (hr : Pr r) : ∀ (k : Nat) (xs : List Nat), Fac (r ^ k) xs → ∀ y ∈ xs, y = r := by
  intro k
  induction k with
  | zero =>
    intro xs h y hy
    have h1 := fac_mem h y hy
    rw [Nat.pow_zero] at h1
    have := Nat.le_of_dvd (by omega) h1.2
    omega
  | succ k ih =>
    intro xs h y hy
    have hmp := min_pow hr k
    have hdv : r ^ (k + 1) / r = r ^ k := by rw [Nat.pow_succ, Nat.mul_div_cancel _ (by have := hr.1; omega)]
    generalize r ^ (k + 1) = n at h hmp hdv
    cases h with
    | one => simp at hy
    | step h0 hm hf =>
      rename_i d ys
      have e : d = r := hm.uniq hmp
      rcases List.mem_cons.1 hy with rfl | hy
      · exact e
      · rw [e, hdv] at hf
        exact ih ys hf y hy
theorem ppVal_pp (q : Nat) (h1 : 2 ≤ q) (h2 : q ≤ 1000) {p k : Int} (h : ppVal (facList q) p k) : p ≠ 0 ↔ PPw q := by
  obtain ⟨xs, hx⟩ := facList_some q (by omega) (by omega)
  rw [facList_yes (by omega) (by omega) hx] at h
  have hne : xs ≠ [] := by
    rintro rfl
    cases hx
    omega
  have hne' : ints xs ≠ [] := by
    intro e
    have := ints_length xs
    rw [e] at this
    exact hne (List.length_eq_zero_iff.1 this.symm)
  obtain ⟨d, ys, rfl⟩ : ∃ d ys, xs = d :: ys := by cases xs with | nil => exact absurd rfl hne | cons d ys => exact ⟨d, ys, rfl⟩
  have g0 : (ints (d :: ys)).getD 0 0 = (d : Int) := rfl
  have gl : (ints (d :: ys)).getD ((ints (d :: ys)).length - 1) 0 = (((d :: ys).getD ((d :: ys).length - 1) 0 : Nat) : Int) := by
    rw [ints_length, ints_getD _ _ (by simp)]
    congr 1
    rw [List.getD_eq_getElem?_getD, List.getElem?_eq_getElem (by simp)]; rfl
  unfold ppVal at h
  rw [g0, gl] at h
  have hd := fac_mem hx d (List.mem_cons_self ..)
  constructor
  · intro hp
    rcases h with ⟨_, e, _⟩ | ⟨_, e, _⟩
    · exact absurd e hp
    · have e' : d = (d :: ys).getD ((d :: ys).length - 1) 0 := by exact_mod_cast e
      have ha : ∀ y ∈ d :: ys, y = d := fun y hy => by
        have a1 := fac_head hx y hy
        have a2 := fac_last hx y hy
        omega
      have hq := fac_all hx d ha
      have hm : Pr d := by
        cases hx with
        | step h0 hm hf => exact min_pr hm
      exact ⟨d, ys.length, hm, hq⟩
  · rintro ⟨r, k', hr, e⟩
    rw [e] at hx
    have ha := fac_pow hr _ _ hx
    have e1 := ha d (List.mem_cons_self ..)
    have e2 : (d :: ys).getD ((d :: ys).length - 1) 0 = r := by
      rw [List.getD_eq_getElem?_getD, List.getElem?_eq_getElem (by simp)]
      exact ha _ (List.getElem_mem _)
    rcases h with ⟨c | c, _, _⟩ | ⟨_, _, e3, _⟩
    · exact absurd c hne'
    · rw [e2, e1] at c; exact absurd rfl c
    · have := hr.1; rw [e3]; omega
theorem spOut_pp (q P K : Nat) (h : SpOut q P K) : 0 < P ↔ PPw q := by
  rcases h with ⟨rfl, rfl, h⟩ | ⟨h1, h2, h3⟩
  · exact ⟨fun h => by omega, fun ⟨r, k, hr, e⟩ => absurd e (h r k hr)⟩
  · exact ⟨fun _ => ⟨P, K - 1, h1, by rw [h3]; congr 1; omega⟩, fun _ => by have := h1.1; omega⟩

/-- The prime powers below n. -/
noncomputable def ol : Nat → List Int
  | 0 => []
  | n + 1 => @ite _ (2 ≤ n ∧ PPw n) (Classical.propDecidable _) (ol n ++ [(n : Int)]) (ol n)
theorem ol_yes {n : Nat} (h2 : 2 ≤ n) (h : PPw n) : ol (n + 1) = ol n ++ [(n : Int)] := by rw [ol, if_pos ⟨h2, h⟩]
theorem ol_no {n : Nat} (h : ¬ PPw n) : ol (n + 1) = ol n := by rw [ol, if_neg (fun c => h c.2)]
theorem ol_le : ∀ n, (ol n).length ≤ n
  | 0 => Nat.le_refl _
  | n + 1 => by
    have := ol_le n
    rw [ol]
    split
    · rw [List.length_append]; simp; omega
    · omega
theorem ol_two : ol 2 = [] := by rw [ol, if_neg (by omega), ol, if_neg (by omega), ol]
theorem ol_len : (ol 65).length ≤ 65 := ol_le 65

set_option maxHeartbeats 1000000 in
theorem sorders (w : World) :
    Calls Try.prog 28 #[] w fun e w' => ∃ v, e = .returned v ∧ Ints w' w.heap.size v (ol 65) ∧ Below w.heap.size w w' := by
  have HS := Lib.hid (fun (q : Nat) (W : World) (h1 : 2 ≤ q) (h2 : q ≤ 64) => ssplit q W h1 h2)
  go_enter Try.func28, Try.ntmps28
  go_wp2
  obtain ⟨wo, hwo⟩ : ∃ wo, w.alloc (.cells #[] 2) = wo := ⟨_, rfl⟩
  have HI : Hid (Ints wo w.heap.size (.slice (some ⟨w.heap.size, 0, none⟩) 0 0) (ol 2)) := by rw [ol_two, ← hwo]; exact World.ownsRow_made w #[] 0 (Nat.le_refl _) (by decide) rfl
  have HB : Hid (Below w.heap.size w wo) := by rw [← hwo]; exact (Below.refl _ _).alloc (Nat.le_refl _) _
  rw [hwo]
  clear hwo
  obtain ⟨B, hB⟩ : ∃ B, w.heap.size = B := ⟨_, rfl⟩
  rw [hB] at HI HB ⊢
  have HE := Lib.hid hB
  clear hB
  go_loopw [1, 2] (fun v i wr => ∃ j : Nat, 2 ≤ j ∧ j ≤ 65 ∧ i = .int .i64 j ∧ Hid (Ints wr B v (ol j)) ∧ Hid (Below B w wr)) (fun _ i _ => 65 - (intOf i).toNat)
  case atStart => exact ⟨2, by omega, by omega, rfl, HI, HB⟩
  case round =>
    obtain ⟨j, j1, j2, rfl, hI, hBl⟩ := hrel
    have s2 : B ≤ wr.heap.size := by have := hBl.out.size; have := HE.out; omega
    by_cases c : j ≤ 64
    · have w1 := wrapk' (n := (j : Int) + 1) (by omega)
      have hlen := ol_le j
      go_wp2_with fail
      refine (HS.out j _ j1 c).mono ?_
      rintro e w' ⟨P, K, rfl, hs, rfl⟩
      have hp := spOut_pp j P K hs
      by_cases h : 0 < P
      · have g1 : decide (0 < P) = true := by simpa using h
        have HO := Lib.hid (ol_yes j1 (hp.1 h))
        clear hp hs
        go_wp2_with (at_builtin; refine wpList_push w' (by rfl) _ _ (by rfl) B _ _ (by rfl) hI.out (j : Int) _ (by rfl) (by omega) s2 ?_; intro v' w3 hn hb; have HN' := Lib.hid hn; have HB2 := Lib.hid hb; clear hn hb)
        go_roundw
        case rel => exact ⟨j + 1, by omega, by omega, by go_num, by rw [HO.out]; exact HN', hBl.out.trans HB2.out⟩
        case measure => simp [intOf]; omega
      · have g1 : decide (0 < P) = false := by simpa using h
        have HO := Lib.hid (ol_no (n := j) (fun c => h (hp.2 c)))
        clear hp hs
        go_wp2
        go_roundw
        case rel => exact ⟨j + 1, by omega, by omega, by go_num, by rw [HO.out]; exact hI, hBl⟩
        case measure => simp [intOf]; omega
    · obtain rfl : j = 65 := by omega
      go_wp2
      go_ret
      exact ⟨_, rfl, by rw [HE.out]; exact hI.out, by rw [HE.out]; exact hBl.out⟩

set_option maxHeartbeats 1000000 in
theorem iorders (w : World) :
    Calls Try.prog 29 #[] w fun e w' => ∃ v, e = .returned v ∧ Ints w' w.heap.size v (ol 65) ∧ Below w.heap.size w w' := by
  have HS := Lib.hid (fun (q : Nat) (W : World) => ipp q W)
  obtain ⟨B, hB⟩ : ∃ B, w.heap.size = B := ⟨_, rfl⟩
  have HI : Hid (Ints w B (.slice none 0 0) (ol 2)) := by rw [ol_two]; exact World.ownsRow_nil _ _ _ _
  have HE := Lib.hid hB
  rw [hB]
  clear hB
  go_enter Try.func29, Try.ntmps29
  go_wp2
  go_loopw [1, 2] (fun v i wr => ∃ j : Nat, 2 ≤ j ∧ j ≤ 65 ∧ i = .int .i64 j ∧ Hid (Ints wr B v (ol j)) ∧ Hid (Below B w wr)) (fun _ i _ => 65 - (intOf i).toNat)
  case atStart => exact ⟨2, by omega, by omega, rfl, HI, Below.refl _ _⟩
  case round =>
    obtain ⟨j, j1, j2, rfl, hI, hBl⟩ := hrel
    have s2 : B ≤ wr.heap.size := by have := hBl.out.size; have := HE.out; omega
    by_cases c : j ≤ 64
    · have w1 := wrapk' (n := (j : Int) + 1) (by omega)
      have hlen := ol_le j
      go_wp2_with fail
      refine (HS.out j _).mono ?_
      rintro e w' ⟨P, K, rfl, hs, b2⟩
      have hp := ppVal_pp j j1 (by omega) hs
      have I2 : Hid (Ints w' B _ (ol j)) := hI.out.below b2 (Nat.le_refl _)
      have B2 : Hid (Below B w w') := hBl.out.trans (b2.mono s2)
      have s3 : B ≤ w'.heap.size := by have := b2.size; omega
      clear b2 hs
      by_cases h : P = 0
      · have g1 : (P != 0) = false := by simpa using h
        have HO := Lib.hid (ol_no (n := j) (fun c => (hp.2 c) h))
        clear hp h
        go_wp2
        go_roundw
        case rel => exact ⟨j + 1, by omega, by omega, by go_num, by rw [HO.out]; exact I2, B2⟩
        case measure => simp [intOf]; omega
      · have g1 : (P != 0) = true := by simpa using h
        have HO := Lib.hid (ol_yes j1 (hp.1 h))
        clear hp h
        go_wp2_with (at_builtin; refine wpList_push w' (by rfl) _ _ (by rfl) B _ _ (by rfl) I2.out (j : Int) _ (by rfl) (by omega) s3 ?_; intro v' w3 hn hb; have HN' := Lib.hid hn; have HB2 := Lib.hid hb; clear hn hb)
        go_roundw
        case rel => exact ⟨j + 1, by omega, by omega, by go_num, by rw [HO.out]; exact HN', B2.out.trans HB2.out⟩
        case measure => simp [intOf]; omega
    · obtain rfl : j = 65 := by omega
      go_wp2
      go_ret
      exact ⟨_, rfl, hI.out, hBl.out⟩

theorem law_FnExactFieldOrders (w : World) :
    Calls Try.prog 4 #[] w fun r w' => r = .returned (.bool true) ∧ Below w.heap.size w w' := by
  have hlen := ol_len
  obtain ⟨xs, hxs⟩ : ∃ xs, ol 65 = xs := ⟨_, rfl⟩
  have hS := fun W => sorders W
  have hI := fun W => iorders W
  rw [hxs] at hlen
  simp only [hxs] at hS hI
  have HS := Lib.hid hS
  have HI := Lib.hid hI
  clear hS hI hxs
  go_enter Try.func4, Try.ntmps4
  go_wp2_with (go_at_call 28; refine (HS.out _).mono ?_; rintro r w1 ⟨v0, rfl, i0, b0⟩; have I0 := Lib.hid i0; have B0 := Lib.hid b0; clear i0 b0)
  refine (HI.out _).mono ?_
  rintro r w2 ⟨v1, rfl, i1, b1⟩
  have I1 := Lib.hid i1
  have B1 := Lib.hid b1
  have I0' := Lib.hid (I0.out.below b1 (Nat.le_refl _))
  clear i1 b1
  go_wp2_with (go_at_call 30; refine (eq_same _ _ _ xs I1.out.at I0'.out.at).mono ?_; rintro r w3 ⟨rfl, n3, rfl⟩)
  refine (mark_own _ _ v1 xs 1 (I1.out.drewN n3) (by omega) (by omega)).mono ?_
  rintro r w4 ⟨rfl, j1, g4, s4⟩
  have J1 := Lib.hid j1
  have J0 := Lib.hid (Ints.mark_other (I0'.out.drewN n3) I1.out trivial I0.out (Nat.le_refl _) g4)
  have b4 := below_of_grown g4 (B := w1.heap.size) (by have := B1.out.size; simpa using this) (fun k hk => (World.ownsRow.lt I1.out k hk).1)
  have B4 := Lib.hid b4
  clear j1 g4 b4 s4
  go_wp2_with fail
  refine (held_marks _ v1 1 xs.length J1.out.at (by omega) (by omega)).mono ?_
  rintro r w5 ⟨rfl, rfl⟩
  go_wp2_with (go_at_call 29; refine (HI.out _).mono ?_; rintro r w6 ⟨v2, rfl, i2, b2⟩; have I2 := Lib.hid i2; have B2 := Lib.hid b2; clear i2 b2)
  refine (eq_same _ _ _ xs I2.out.at (J0.out.below B2.out (Nat.le_refl _)).at).mono ?_
  rintro r w7 ⟨rfl, n7, rfl⟩
  go_wp2_with fail
  refine (held_marks _ v1 1 xs.length (((J1.out.below B2.out (Nat.le_refl _)).drewN n7).at) (by omega) (by omega)).mono ?_
  rintro r w8 ⟨rfl, rfl⟩
  go_wp2
  go_ret
  exact ⟨rfl, below_law B0.out B1.out B4.out B2.out⟩
end Go.Proofs.Ytmlcdbjibngnkaa
