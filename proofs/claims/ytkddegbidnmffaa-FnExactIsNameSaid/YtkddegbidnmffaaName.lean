/- IsName of both packages. -/
import Derived.Test.YtkddegbidnmffaaIn
import Derived.WalkLawsBesides
namespace Go.Proofs.Ytkddegbidnmffaa
open Go.RowKit
set_option linter.unusedVariables false

def smallB (c : UInt8) : Bool := decide (97 ≤ (c.toNat : Int)) && decide ((c.toNat : Int) ≤ 122)
def digitB (c : UInt8) : Bool := decide (48 ≤ (c.toNat : Int)) && decide ((c.toNat : Int) ≤ 57)

theorem ssmall (c : UInt8) (w : World) :
    Calls Try.prog 19 #[.int .u8 c.toNat] w fun e w' => e = .returned (.bool (smallB c)) ∧ w = w' := by
  by_cases h : 97 ≤ (c.toNat : Int)
  · have h1 : decide (97 ≤ (c.toNat : Int)) = true := by simpa using h
    by_cases h2 : (c.toNat : Int) ≤ 122
    · have V := Lib.hid (show smallB c = true by simp [smallB, h, h2])
      go_enter Try.func19, Try.ntmps19
      go_wp2
      go_ret
      exact ⟨ret_b _ _ V.out.symm, rfl⟩
    · have V := Lib.hid (show smallB c = false by simp [smallB, h, h2])
      have h3 : decide ((c.toNat : Int) ≤ 122) = false := by simpa using h2
      go_enter Try.func19, Try.ntmps19
      go_wp2
      go_ret
      exact ⟨ret_b _ _ V.out.symm, rfl⟩
  · have V := Lib.hid (show smallB c = false by unfold smallB; rw [decide_eq_false h]; rfl)
    go_enter Try.func19, Try.ntmps19
    go_wp2
    go_ret
    exact ⟨ret_b _ _ V.out.symm, rfl⟩

theorem sdigit (c : UInt8) (w : World) :
    Calls Try.prog 20 #[.int .u8 c.toNat] w fun e w' => e = .returned (.bool (digitB c)) ∧ w = w' := by
  by_cases h : 48 ≤ (c.toNat : Int)
  · have h1 : decide (48 ≤ (c.toNat : Int)) = true := by simpa using h
    by_cases h2 : (c.toNat : Int) ≤ 57
    · have V := Lib.hid (show digitB c = true by simp [digitB, h, h2])
      go_enter Try.func20, Try.ntmps20
      go_wp2
      go_ret
      exact ⟨ret_b _ _ V.out.symm, rfl⟩
    · have V := Lib.hid (show digitB c = false by simp [digitB, h, h2])
      have h3 : decide ((c.toNat : Int) ≤ 57) = false := by simpa using h2
      go_enter Try.func20, Try.ntmps20
      go_wp2
      go_ret
      exact ⟨ret_b _ _ V.out.symm, rfl⟩
  · have V := Lib.hid (show digitB c = false by unfold digitB; rw [decide_eq_false h]; rfl)
    go_enter Try.func20, Try.ntmps20
    go_wp2
    go_ret
    exact ⟨ret_b _ _ V.out.symm, rfl⟩

theorem ismall (c : UInt8) (w : World) :
    Calls Try.prog 21 #[.int .u8 c.toNat] w fun e w' => e = .returned (.bool (smallB c)) ∧ w = w' := by
  by_cases h : 97 ≤ (c.toNat : Int)
  · have h1 : decide (97 ≤ (c.toNat : Int)) = true := by simpa using h
    by_cases h2 : (c.toNat : Int) ≤ 122
    · have V := Lib.hid (show smallB c = true by simp [smallB, h, h2])
      go_enter Try.func21, Try.ntmps21
      go_wp2
      go_ret
      exact ⟨ret_b _ _ V.out.symm, rfl⟩
    · have V := Lib.hid (show smallB c = false by simp [smallB, h, h2])
      have h3 : decide ((c.toNat : Int) ≤ 122) = false := by simpa using h2
      go_enter Try.func21, Try.ntmps21
      go_wp2
      go_ret
      exact ⟨ret_b _ _ V.out.symm, rfl⟩
  · have V := Lib.hid (show smallB c = false by unfold smallB; rw [decide_eq_false h]; rfl)
    go_enter Try.func21, Try.ntmps21
    go_wp2
    go_ret
    exact ⟨ret_b _ _ V.out.symm, rfl⟩

theorem idigit (c : UInt8) (w : World) :
    Calls Try.prog 22 #[.int .u8 c.toNat] w fun e w' => e = .returned (.bool (digitB c)) ∧ w = w' := by
  by_cases h : 48 ≤ (c.toNat : Int)
  · have h1 : decide (48 ≤ (c.toNat : Int)) = true := by simpa using h
    by_cases h2 : (c.toNat : Int) ≤ 57
    · have V := Lib.hid (show digitB c = true by simp [digitB, h, h2])
      go_enter Try.func22, Try.ntmps22
      go_wp2
      go_ret
      exact ⟨ret_b _ _ V.out.symm, rfl⟩
    · have V := Lib.hid (show digitB c = false by simp [digitB, h, h2])
      have h3 : decide ((c.toNat : Int) ≤ 57) = false := by simpa using h2
      go_enter Try.func22, Try.ntmps22
      go_wp2
      go_ret
      exact ⟨ret_b _ _ V.out.symm, rfl⟩
  · have V := Lib.hid (show digitB c = false by unfold digitB; rw [decide_eq_false h]; rfl)
    go_enter Try.func22, Try.ntmps22
    go_wp2
    go_ret
    exact ⟨ret_b _ _ V.out.symm, rfl⟩

/-- What a name is. -/
def IsNm (s : ByteArray) : Prop := s.size ≤ 10 ∧ (∃ h : 0 < s.size, smallB s[0] = true) ∧ ∀ i, (h : i < s.size) → smallB s[i] = true ∨ digitB s[i] = true
noncomputable def nameB (s : ByteArray) : Bool := @decide (IsNm s) (Classical.propDecidable _)
theorem nameB_yes {s : ByteArray} (h : IsNm s) : nameB s = true := @decide_eq_true _ (Classical.propDecidable _) h
theorem nameB_no {s : ByteArray} (h : ¬ IsNm s) : nameB s = false := @decide_eq_false _ (Classical.propDecidable _) h

theorem empty_list (s : ByteArray) (h0 : s.size = 0) : s.toList = [] := by
  have : s = ByteArray.empty := ByteArray.size_eq_zero_iff.1 h0
  subst this
  exact ByteArray.toList_empty
theorem nonempty_list (s : ByteArray) (h0 : 0 < s.size) : s.toList.isEmpty = false := by
  rw [ByteArray.toList_eq]
  cases h : s.data.toList with
  | nil =>
    have e : s.data.size = 0 := by simpa using congrArg List.length h
    have e' : s.size = s.data.size := rfl
    omega
  | cons => rfl

set_option maxHeartbeats 1600000 in
theorem sname (s : ByteArray) (w : World) :
    Calls Try.prog 9 #[.string s] w fun e w' => e = .returned (.bool (nameB s)) ∧ w = w' := by
  by_cases h0 : s.size = 0
  · have V := Lib.hid (show nameB s = false from nameB_no fun h => by have := h.2.1.1; omega)
    have hE : s.toList = [] := empty_list s h0
    clear h0
    go_enter Try.func9, Try.ntmps9
    go_wp2
    go_ret
    exact ⟨ret_b _ _ V.out.symm, rfl⟩
  · have h1 : 0 < s.size := by omega
    have hne : s.toList.isEmpty = false := nonempty_list s h1
    clear h0
    by_cases hbig : 10 < s.size
    · have V := Lib.hid (show nameB s = false from nameB_no fun h => by have := h.1; omega)
      have hb : (10 : Int) < (s.size : Int) := by omega
      go_enter Try.func9, Try.ntmps9
      go_wp2
      go_ret
      exact ⟨ret_b _ _ V.out.symm, rfl⟩
    · have hb : decide ((10 : Int) < (s.size : Int)) = false := by simp; omega
      have hs : s.size ≤ 10 := by omega
      have HS := Lib.hid hs
      clear hbig
      by_cases hf : smallB s[0] = true
      · have K := fun W => ssmall s[0] W
        rw [hf] at K
        have HK := Lib.hid K
        have HF := Lib.hid hf
        clear K hf
        go_enter Try.func9, Try.ntmps9
        go_wp2_with (go_at_call 19; refine (HK.out _).mono ?_; rintro e w' ⟨rfl, rfl⟩)
        go_loop [3] (fun i => ∃ k : Nat, k ≤ s.size ∧ i = .int .i64 k ∧ Hid (∀ i, (h : i < s.size) → i < k → smallB s[i] = true ∨ digitB s[i] = true)) (fun i => s.size - (intOf i).toNat)
        case atStart => exact ⟨0, Nat.zero_le _, rfl, fun i h h' => by omega⟩
        case round =>
          obtain ⟨k, hk, rfl, hr⟩ := hrel
          by_cases hlt : k < s.size
          · have S1 := fun W => ssmall s[k] W
            have D1 := fun W => sdigit s[k] W
            have step : (smallB s[k] = true ∨ digitB s[k] = true) → Hid (∀ i, (h : i < s.size) → i < k + 1 → smallB s[i] = true ∨ digitB s[i] = true) := fun hh i h h' => by
              by_cases e : i = k
              · subst e; exact hh
              · exact hr.out i h (by omega)
            have bad : smallB s[k] = false → digitB s[k] = false → Hid (nameB s = false) := fun a b => nameB_no fun h => by
              have := h.2.2 k hlt
              rw [a, b] at this
              simp at this
            cases ha : smallB s[k]
            · rw [ha] at S1
              cases hd : digitB s[k]
              · rw [hd] at D1
                have V := bad ha hd
                have HS1 := Lib.hid S1
                have HD1 := Lib.hid D1
                clear S1 D1 step bad ha hd
                go_wp2_with (first | (go_at_call 19; refine (HS1.out _).mono ?_; rintro e w' ⟨rfl, rfl⟩) | (go_at_call 20; refine (HD1.out _).mono ?_; rintro e w' ⟨rfl, rfl⟩))
                go_ret
                exact ⟨ret_b _ _ V.out.symm, rfl⟩
              · rw [hd] at D1
                have V := step (.inr hd)
                have HS1 := Lib.hid S1
                have HD1 := Lib.hid D1
                clear S1 D1 step bad ha hd
                go_wp2_with (first | (go_at_call 19; refine (HS1.out _).mono ?_; rintro e w' ⟨rfl, rfl⟩) | (go_at_call 20; refine (HD1.out _).mono ?_; rintro e w' ⟨rfl, rfl⟩))
                go_round
                case rel => exact ⟨k + 1, by omega, by go_num, V⟩
                case measure => simp [intOf]; omega
            · rw [ha] at S1
              have V := step (.inl ha)
              have HS1 := Lib.hid S1
              clear S1 D1 step bad ha
              go_wp2_with (go_at_call 19; refine (HS1.out _).mono ?_; rintro e w' ⟨rfl, rfl⟩)
              go_round
              case rel => exact ⟨k + 1, by omega, by go_num, V⟩
              case measure => simp [intOf]; omega
          · have V := Lib.hid (show nameB s = true from nameB_yes ⟨HS.out, ⟨h1, HF.out⟩, fun i h => hr.out i h (by omega)⟩)
            go_wp2
            go_ret
            exact ⟨ret_b _ _ V.out.symm, rfl⟩
      · have hf' : smallB s[0] = false := by simpa using hf
        have V := Lib.hid (show nameB s = false from nameB_no fun h => hf h.2.1.2)
        have K := fun W => ssmall s[0] W
        rw [hf'] at K
        have HK := Lib.hid K
        clear K hf hf'
        go_enter Try.func9, Try.ntmps9
        go_wp2_with (go_at_call 19; refine (HK.out _).mono ?_; rintro e w' ⟨rfl, rfl⟩)
        go_ret
        exact ⟨ret_b _ _ V.out.symm, rfl⟩
set_option maxHeartbeats 1600000 in
theorem iname (s : ByteArray) (w : World) :
    Calls Try.prog 10 #[.string s] w fun e w' => e = .returned (.bool (nameB s)) ∧ w = w' := by
  by_cases h0 : s.size = 0
  · have V := Lib.hid (show nameB s = false from nameB_no fun h => by have := h.2.1.1; omega)
    have hE : (s.size : Int) < 1 := by omega
    clear h0
    go_enter Try.func10, Try.ntmps10
    go_wp2
    go_ret
    exact ⟨ret_b _ _ V.out.symm, rfl⟩
  · have h1 : 0 < s.size := by omega
    have hne : decide ((s.size : Int) < 1) = false := by simp; omega
    have hne2 : ¬ (s.size : Int) < 1 := by omega
    clear h0
    by_cases hbig : 10 < s.size
    · have V := Lib.hid (show nameB s = false from nameB_no fun h => by have := h.1; omega)
      have hb : (10 : Int) < (s.size : Int) := by omega
      go_enter Try.func10, Try.ntmps10
      go_wp2
      go_ret
      exact ⟨ret_b _ _ V.out.symm, rfl⟩
    · have hb : decide ((10 : Int) < (s.size : Int)) = false := by simp; omega
      have hs : s.size ≤ 10 := by omega
      have HS := Lib.hid hs
      clear hbig
      by_cases hf : smallB s[0] = true
      · have K := fun W => ismall s[0] W
        rw [hf] at K
        have HK := Lib.hid K
        have HF := Lib.hid hf
        clear K hf
        go_enter Try.func10, Try.ntmps10
        go_wp2_with (go_at_call 21; refine (HK.out _).mono ?_; rintro e w' ⟨rfl, rfl⟩)
        go_loop [3] (fun i => ∃ k : Nat, k ≤ s.size ∧ i = .int .i64 k ∧ Hid (∀ i, (h : i < s.size) → i < k → smallB s[i] = true ∨ digitB s[i] = true)) (fun i => s.size - (intOf i).toNat)
        case atStart => exact ⟨1, by omega, rfl, fun i h h' => by
          obtain rfl : i = 0 := by omega
          exact .inl HF.out⟩
        case round =>
          obtain ⟨k, hk, rfl, hr⟩ := hrel
          by_cases hlt : k < s.size
          · have S1 := fun W => ismall s[k] W
            have D1 := fun W => idigit s[k] W
            have step : (smallB s[k] = true ∨ digitB s[k] = true) → Hid (∀ i, (h : i < s.size) → i < k + 1 → smallB s[i] = true ∨ digitB s[i] = true) := fun hh i h h' => by
              by_cases e : i = k
              · subst e; exact hh
              · exact hr.out i h (by omega)
            have bad : smallB s[k] = false → digitB s[k] = false → Hid (nameB s = false) := fun a b => nameB_no fun h => by
              have := h.2.2 k hlt
              rw [a, b] at this
              simp at this
            cases ha : smallB s[k]
            · rw [ha] at S1
              cases hd : digitB s[k]
              · rw [hd] at D1
                have V := bad ha hd
                have HS1 := Lib.hid S1
                have HD1 := Lib.hid D1
                clear S1 D1 step bad ha hd
                go_wp2_with (first | (go_at_call 21; refine (HS1.out _).mono ?_; rintro e w' ⟨rfl, rfl⟩) | (go_at_call 22; refine (HD1.out _).mono ?_; rintro e w' ⟨rfl, rfl⟩))
                go_ret
                exact ⟨ret_b _ _ V.out.symm, rfl⟩
              · rw [hd] at D1
                have V := step (.inr hd)
                have HS1 := Lib.hid S1
                have HD1 := Lib.hid D1
                clear S1 D1 step bad ha hd
                go_wp2_with (first | (go_at_call 21; refine (HS1.out _).mono ?_; rintro e w' ⟨rfl, rfl⟩) | (go_at_call 22; refine (HD1.out _).mono ?_; rintro e w' ⟨rfl, rfl⟩))
                go_round
                case rel => exact ⟨k + 1, by omega, by go_num, V⟩
                case measure => simp [intOf]; omega
            · rw [ha] at S1
              have V := step (.inl ha)
              have HS1 := Lib.hid S1
              clear S1 D1 step bad ha
              go_wp2_with (go_at_call 21; refine (HS1.out _).mono ?_; rintro e w' ⟨rfl, rfl⟩)
              go_round
              case rel => exact ⟨k + 1, by omega, by go_num, V⟩
              case measure => simp [intOf]; omega
          · have V := Lib.hid (show nameB s = true from nameB_yes ⟨HS.out, ⟨h1, HF.out⟩, fun i h => hr.out i h (by omega)⟩)
            go_wp2
            go_ret
            exact ⟨ret_b _ _ V.out.symm, rfl⟩
      · have hf' : smallB s[0] = false := by simpa using hf
        have V := Lib.hid (show nameB s = false from nameB_no fun h => hf h.2.1.2)
        have K := fun W => ismall s[0] W
        rw [hf'] at K
        have HK := Lib.hid K
        clear K hf hf'
        go_enter Try.func10, Try.ntmps10
        go_wp2_with (go_at_call 21; refine (HK.out _).mono ?_; rintro e w' ⟨rfl, rfl⟩)
        go_ret
        exact ⟨ret_b _ _ V.out.symm, rfl⟩

theorem law_FnExactIsName (s : ByteArray) (w : World) (_ : s.size ≤ maxLen) :
    Calls Try.prog 4 #[.string s] w fun r w' => r = .returned (.bool true) ∧ Below w.heap.size w w' := by
  by_cases hbig : 1048576 < s.size
  · have hb : (1048576 : Int) < (s.size : Int) := by omega
    go_enter Try.func4, Try.ntmps4
    go_wp2
    go_ret
    exact ⟨rfl, Below.refl _ _⟩
  · have hb : ¬ (1048576 : Int) < (s.size : Int) := by omega
    obtain ⟨b, hb'⟩ : ∃ b, nameB s = b := ⟨_, rfl⟩
    have hS := fun W => sname s W
    have hI := fun W => iname s W
    simp only [hb'] at hS hI
    have HS := Lib.hid hS
    have HI := Lib.hid hI
    clear hS hI hb'
    cases b
    all_goals
      go_enter Try.func4, Try.ntmps4
      go_wp2_with (first | (go_at_call 9; refine (HS.out _).mono ?_; rintro r w' ⟨rfl, rfl⟩) | (go_at_call 10; refine (HI.out _).mono ?_; rintro r w' ⟨rfl, rfl⟩))
      go_ret
      exact ⟨rfl, Below.refl _ _⟩
end Go.Proofs.Ytkddegbidnmffaa
