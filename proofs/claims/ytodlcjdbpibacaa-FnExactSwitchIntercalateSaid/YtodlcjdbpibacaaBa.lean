/- Arrays of bools of the call's own, in a block of whatever type. -/
import Derived.Test.YtodlcjdbpibacaaLim
import Derived.Test.YtodlcjdbpibacaaPn
namespace Go.Proofs.Ytodlcjdbpibacaa
open Go.RowKit
set_option linter.unusedVariables false

def bar (n : Nat) (c : Nat → Bool) : Array Value := ((List.range n).map (fun i => Value.bool (c i))).toArray
theorem bar_get (n : Nat) (c : Nat → Bool) (i : Nat) (h : i < n) : (bar n c)[i]? = some (.bool (c i)) := by simp [bar, h]
def updB (c : Nat → Bool) (i : Nat) (v : Bool) : Nat → Bool := fun j => if j = i then v else c j
theorem bar_set (n : Nat) (c : Nat → Bool) (i : Nat) (v : Bool) : (bar n c).setIfInBounds i (.bool v) = bar n (updB c i v) := by
  apply Array.ext_getElem?
  intro j
  rw [Array.getElem?_setIfInBounds]
  by_cases hj : j < n
  · rw [bar_get n (updB c i v) j hj]
    by_cases e : i = j
    · subst e
      have hs : i < (bar n c).size := by simp [bar, hj]
      rw [if_pos rfl, if_pos hs]; unfold updB; rw [if_pos rfl]
    · rw [if_neg e, bar_get n c j hj]
      unfold updB
      rw [if_neg (fun h => e h.symm)]
  · have h1 : (bar n c).size = n := by simp [bar]
    have h2 : (bar n (updB c i v)).size = n := by simp [bar]
    rw [Array.getElem?_eq_none (by omega : (bar n (updB c i v)).size ≤ j)]
    split
    · rw [if_neg (by omega)]
    · exact Array.getElem?_eq_none (by omega)
/-- Block g is an array of q bools, of the type T. -/
def Ba (w : World) (T : TypeId) (g q : Nat) (c : Nat → Bool) : Prop := w.heap[g]? = some (.cells (bar q c) T (0, 0))
theorem Ba.cell {w : World} {T : TypeId} {g q : Nat} {c : Nat → Bool} (h : Ba w T g q c) (i : Nat) (hi : i < q) : w.cell? ⟨g, i, none⟩ = some (.bool (c i)) := by
  rw [cell_of_row w g i _ _ _ h, bar_get q c i hi]
theorem Ba.frozen {w : World} {T : TypeId} {g q : Nat} {c : Nat → Bool} (h : Ba w T g q c) (i : Nat) : w.frozen? ⟨g, i, none⟩ = false := frozen_of_row w g i _ _ h
theorem Ba.set {w : World} {T : TypeId} {g q : Nat} {c : Nat → Bool} (h : Ba w T g q c) (i : Nat) (v : Bool) : Ba (w.setCell ⟨g, i, none⟩ (.bool v)) T g q (updB c i v) := by
  unfold Ba
  rw [heap_setCell_same w g i _ _ _ h, bar_set]
theorem Ba.lt {w : World} {T : TypeId} {g q : Nat} {c : Nat → Bool} (h : Ba w T g q c) : g < w.heap.size := by
  unfold Ba at h; exact (Array.getElem?_eq_some_iff.1 h).1
theorem Ba.below {w w' : World} {T : TypeId} {g q : Nat} {c : Nat → Bool} {B : Nat} (h : Ba w T g q c) (hb : Below B w w') (hg : g < B) : Ba w' T g q c := (hb.block g hg).trans h
theorem Ba.drewN {w : World} {T : TypeId} {g q : Nat} {c : Nat → Bool} (h : Ba w T g q c) (n : Nat) : Ba (w.drewN n) T g q c := h
theorem Ba.congr {w : World} {T : TypeId} {g q : Nat} {c d : Nat → Bool} (h : Ba w T g q c) (e : ∀ i, i < q → c i = d i) : Ba w T g q d := by
  have : bar q c = bar q d := by
    apply Array.ext_getElem?
    intro j
    by_cases hj : j < q
    · rw [bar_get q c j hj, bar_get q d j hj, e j hj]
    · rw [Array.getElem?_eq_none (by simp [bar]; omega), Array.getElem?_eq_none (by simp [bar]; omega)]
  unfold Ba at h ⊢
  rw [← this]; exact h
/-- Which numbers occur in a list. -/
def inL (xs : List Int) : Nat → Bool := fun i => decide ((i : Int) ∈ xs)
theorem inL_snoc {xs : List Int} {x : Int} {t : Nat} (e : x = t) : updB (inL xs) t true = inL (xs ++ [x]) := by
  funext i
  unfold updB inL
  by_cases h : i = t
  · subst h; simp [e]
  · rw [if_neg h]
    have : ¬ (i : Int) = x := by omega
    simp [this]
theorem inL_nil : inL [] = fun _ => false := by funext i; simp [inL]

/-! Permutations: the program's ValidPermutation. -/
section
open Go.RowKit
set_option linter.unusedVariables false

set_option maxHeartbeats 1000000 in
theorem iok (w : World) (v : Value) (xs : List Int) (hv : IntsC w v xs) :
    Calls Try.prog 33 #[v] w fun e w' => e = .returned (.bool (pmB xs)) ∧ Below w.heap.size w w' := by
  have hml := hv.1.1
  by_cases hbig : 32 < xs.length
  · have V := Lib.hid (pmB_false (xs := xs) (fun h => by have := h.1; omega))
    obtain ⟨a, cap, rfl, _⟩ := hv.part
    have g1 : decide ((32 : Int) < (xs.length : Int)) = true := decide_eq_true (by omega)
    have g1' : decide (32 < xs.length) = true := decide_eq_true (by omega)
    clear hv hbig
    go_enter Try.func33, Try.ntmps33
    go_wp2
    go_ret
    exact ⟨by rw [V.out]; rfl, Below.refl _ _⟩
  obtain ⟨m, hm⟩ : ∃ m, xs.length = m := ⟨_, rfl⟩
  have m32 : m ≤ 32 := by omega
  have g1 : decide ((32 : Int) < (m : Int)) = false := decide_eq_false (by omega)
  have g1' : decide (32 < m) = false := decide_eq_false (by omega)
  obtain ⟨a, cap, rfl, hk, -, hc⟩ := hv.part
  rw [hm] at hk hc ⊢
  have HC := Lib.hid hc
  have YES : Hid ((∀ k, k < m → okPm xs k) → pmB xs = true) := fun h => pmB_true ⟨by omega, fun i hi => h i (by omega)⟩
  have NO : Hid (∀ k, k < m → ¬ okPm xs k → pmB xs = false) := fun k hk hn => pmB_false fun h => hn (h.2 k (by omega))
  have TK : Hid (∀ j, j < m → xs.take (j + 1) = xs.take j ++ [xs.getD j 0]) := fun j hj => takeI_getD (by omega)
  have HM := Lib.hid hm
  clear hc hv hm hbig hml
  go_enter Try.func33, Try.ntmps33
  go_wp2
  generalize hwo : w.alloc _ = wo
  have BA : Hid (Ba wo 51 w.heap.size 32 (inL (xs.take 0))) := by
    unfold Hid Ba
    rw [← hwo, heap_alloc_new, List.take_zero, inL_nil]; rfl
  have BO : Hid (Below w.heap.size w wo) := by rw [← hwo]; exact (Below.refl _ _).alloc (Nat.le_refl _) _
  obtain ⟨B, hB⟩ : ∃ B, w.heap.size = B := ⟨_, rfl⟩
  rw [hB] at BA BO HC ⊢
  have HE := Lib.hid hB
  clear hwo hB
  go_loopw [11] (fun i wr => ∃ (j : Nat), j ≤ m ∧ i = .int .i64 j ∧ Hid (∀ k, k < j → okPm xs k) ∧ Hid (Ba wr 51 B 32 (inL (xs.take j))) ∧ Hid (Below B w wr)) (fun i _ => m - (intOf i).toNat)
  case atStart => exact ⟨0, by omega, rfl, fun k hk => by omega, BA, BO⟩
  case round =>
    obtain ⟨j, hj, rfl, hO, hI, hBl⟩ := hrel
    by_cases c : j < m
    · have k1 : decide (j < m) = true := by simpa using c
      obtain ⟨g, off, rfl, hg, cj⟩ := HC.out j c
      have NJ := Lib.hid (NO.out j c)
      have e0 : okPm xs j ↔ 0 ≤ xs.getD j 0 ∧ xs.getD j 0 ≤ (m : Int) - 1 ∧ xs.getD j 0 ∉ xs.take j := by unfold okPm; rw [HM.out]
      have E0 := Lib.hid e0
      have TJ := Lib.hid (TK.out j c)
      obtain ⟨x, hx⟩ : ∃ x, xs.getD j 0 = x := ⟨_, rfl⟩
      rw [hx] at cj E0 TJ
      have cx : wr.cell? ⟨g, off + j, none⟩ = some (.int .i64 x) := by rw [hBl.out.cell (p := ⟨g, off + j, none⟩) hg, cj]
      have j0 : (0 : Int) ≤ (j : Int) := by omega
      have j1 : (j : Int) < (m : Int) := by omega
      have w3 := IntWalk.i64_in ((j : Int) + 1) (by omega)
      clear hx cj hg e0
      by_cases c1 : x < 0
      · have g2 : decide (x < 0) = true := by simpa using c1
        have V := Lib.hid (NJ.out (by rw [E0.out]; rintro ⟨h, _⟩; omega))
        go_wp2
        go_ret
        exact ⟨by rw [V.out]; rfl, by rw [HE.out]; exact hBl.out⟩
      · obtain ⟨t, rfl⟩ : ∃ t : Nat, x = t := ⟨x.toNat, by omega⟩
        have g2 : decide ((t : Int) < 0) = false := by simp
        clear c1
        by_cases c2 : m ≤ t
        · have g3 : decide ((m : Int) ≤ (t : Int)) = true := decide_eq_true (by omega)
          have g3' : decide (m ≤ t) = true := by simpa using c2
          have V := Lib.hid (NJ.out (by rw [E0.out]; rintro ⟨_, h, _⟩; omega))
          go_wp2
          go_ret
          exact ⟨by rw [V.out]; rfl, by rw [HE.out]; exact hBl.out⟩
        · have g3 : decide ((m : Int) ≤ (t : Int)) = false := decide_eq_false (by omega)
          have g3' : decide (m ≤ t) = false := by simpa using c2
          have t0 : (0 : Int) ≤ (t : Int) := by omega
          have t1 : (t : Int) < 32 := by omega
          have ct := hI.out.cell t (by omega)
          obtain ⟨b, hb⟩ : ∃ b, inL (xs.take j) t = b := ⟨_, rfl⟩
          rw [hb] at ct
          cases b with
          | true =>
            have V := Lib.hid (NJ.out (by rw [E0.out]; rintro ⟨_, _, h⟩; exact h (of_decide_eq_true hb)))
            clear hb
            go_wp2
            go_ret
            exact ⟨by rw [V.out]; rfl, by rw [HE.out]; exact hBl.out⟩
          | false =>
            have O2 : Hid (∀ k, k < j + 1 → okPm xs k) := by
              intro k hk
              by_cases e : k = j
              · rw [e, E0.out]; exact ⟨by omega, by omega, of_decide_eq_false hb⟩
              · exact hO.out k (by omega)
            have S1 : Hid (Ba (wr.setCell ⟨B, t, none⟩ (.bool true)) 51 B 32 (inL (xs.take (j + 1)))) := by
              have := hI.out.set t true
              rw [inL_snoc (x := (t : Int)) rfl, ← TJ.out] at this
              exact this
            have S2 : Hid (Below B w (wr.setCell ⟨B, t, none⟩ (.bool true))) := hBl.out.setCell (Nat.le_refl _) _
            have hf := hI.out.frozen t
            clear hb
            go_wp2
            go_roundw
            case rel => exact ⟨j + 1, by omega, by go_num, O2, S1, S2⟩
            case measure => simp [intOf]; omega
    · have k1 : decide (j < m) = false := by simpa using c
      obtain rfl : j = m := by omega
      have V := Lib.hid (YES.out hO.out)
      go_wp2
      go_ret
      exact ⟨by rw [V.out]; rfl, by rw [HE.out]; exact hBl.out⟩

theorem iValidPermutation (xs : List Int) (hx : SmallL xs) (W : World) (v : Value) (hv : IntsC W v xs) :
    Calls Try.prog 33 #[v] W fun e w' => e = .returned (.bool (ValidPermutation_0 xs)) ∧ Below W.heap.size W w' := iok W v xs hv
end
end Go.Proofs.Ytodlcjdbpibacaa
