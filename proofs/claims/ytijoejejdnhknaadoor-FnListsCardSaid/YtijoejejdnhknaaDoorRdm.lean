/- Decimal forms are read back. Mathematics alone. -/
import Derived.Test.YtijoejejdnhknaaDoorDec
import Derived.Lib.ParseIntB
namespace Go.Proofs.YtijoejejdnhknaaDoor
open Go.RowKit
set_option linter.unusedVariables false

/-- A digit. -/
def isDg (b : UInt8) : Prop := 48 ≤ b.toNat ∧ b.toNat ≤ 57
/-- The number that digits spell. -/
def vl (acc : Nat) (L : List UInt8) : Nat := L.foldl (fun a b => a * 10 + (b.toNat - 48)) acc
theorem vl_snoc (acc : Nat) (L : List UInt8) (b : UInt8) : vl acc (L ++ [b]) = vl acc L * 10 + (b.toNat - 48) := by unfold vl; rw [List.foldl_append]; rfl
theorem vl_bound (L : List UInt8) : ∀ (acc : Nat), (∀ b ∈ L, isDg b) → vl acc L < (acc + 1) * 10 ^ L.length := by
  induction L with
  | nil => intro acc _; simp [vl]
  | cons b L ih =>
    intro acc h
    have h1 := h b (List.mem_cons_self ..)
    have h2 := ih (acc * 10 + (b.toNat - 48)) (fun c hc => h c (List.mem_cons_of_mem _ hc))
    have e : vl acc (b :: L) = vl (acc * 10 + (b.toNat - 48)) L := rfl
    rw [e, List.length_cons, Nat.pow_succ]
    refine Nat.lt_of_lt_of_le h2 ?_
    have : (acc * 10 + (b.toNat - 48) + 1) * 10 ^ L.length ≤ ((acc + 1) * 10) * 10 ^ L.length := Nat.mul_le_mul_right _ (by unfold isDg at h1; omega)
    rw [Nat.mul_comm (10 ^ L.length) 10, ← Nat.mul_assoc]
    exact this
theorem vl_ge (L : List UInt8) : ∀ acc, acc ≤ vl acc L := by
  induction L with
  | nil => intro acc; exact Nat.le_refl _
  | cons b L ih =>
    intro acc
    have := ih (acc * 10 + (b.toNat - 48))
    have e : vl acc (b :: L) = vl (acc * 10 + (b.toNat - 48)) L := rfl
    omega
theorem dd_spec (a : Nat) : (∀ b ∈ Lib.decDigits a, isDg b) ∧ vl 0 (Lib.decDigits a) = a ∧ 1 ≤ (Lib.decDigits a).length := by
  induction a using Nat.strongRecOn with
  | _ a ih =>
    rw [Lib.decDigits]
    by_cases c : a < 10
    · rw [dif_pos c]
      refine ⟨fun b hb => ?_, ?_, Nat.le_refl _⟩
      · simp only [List.mem_singleton] at hb
        subst hb
        unfold isDg
        rw [UInt8.toNat_ofNat']
        omega
      · show 0 * 10 + ((UInt8.ofNat (48 + a)).toNat - 48) = a
        rw [UInt8.toNat_ofNat']
        omega
    · rw [dif_neg c]
      obtain ⟨h1, h2, h3⟩ := ih (a / 10) (by omega)
      refine ⟨fun b hb => ?_, ?_, by rw [List.length_append]; simp⟩
      · rcases List.mem_append.1 hb with hb | hb
        · exact h1 b hb
        · simp only [List.mem_singleton] at hb
          subst hb
          unfold isDg
          rw [UInt8.toNat_ofNat']
          omega
      · rw [vl_snoc, h2, UInt8.toNat_ofNat']
        omega
theorem parseM_ok (M : Nat) (hM : M ≤ 18446744073709551615) (L : List UInt8) : ∀ acc, (∀ b ∈ L, isDg b) → vl acc L ≤ M → Lib.parseUintM M acc L = .ok (vl acc L) := by
  induction L with
  | nil => intro acc _ _; rfl
  | cons b L ih =>
    intro acc h hv
    have h1 := h b (List.mem_cons_self ..)
    have e : vl acc (b :: L) = vl (acc * 10 + (b.toNat - 48)) L := rfl
    have g := vl_ge L (acc * 10 + (b.toNat - 48))
    rw [e] at hv ⊢
    rw [Lib.parseUintM, if_pos (show 48 ≤ b.toNat ∧ b.toNat ≤ 57 from h1), if_neg (by omega), if_neg (by omega)]
    exact ih _ (fun c hc => h c (List.mem_cons_of_mem _ hc)) hv
/-- The digits behind a sign. -/
def tlB (l : List UInt8) : List UInt8 := match l with | [] => [] | c :: r => if c.toNat = 45 then r else l
def sgB (l : List UInt8) : Bool := match l with | [] => false | c :: _ => decide (c.toNat = 45)
theorem itoa_parts {n : Int} {l : List UInt8} (h : Lib.itoa n = l) : tlB l = Lib.decDigits n.natAbs ∧ sgB l = decide (n < 0) := by
  subst h
  unfold Lib.itoa
  by_cases c : n < 0
  · rw [if_pos c]
    refine ⟨?_, ?_⟩
    · show (if (45 : UInt8).toNat = 45 then Lib.decDigits n.natAbs else 45 :: Lib.decDigits n.natAbs) = _
      exact if_pos (show (45 : UInt8).toNat = 45 from rfl)
    · rw [decide_eq_true c]; rfl
  · rw [if_neg c, show n.toNat = n.natAbs by omega]
    obtain ⟨h1, h2, h3⟩ := dd_spec n.natAbs
    cases e : Lib.decDigits n.natAbs with
    | nil => rw [e] at h3; simp at h3
    | cons b r =>
      rw [e] at h1
      have hb := h1 b (List.mem_cons_self ..)
      unfold isDg at hb
      refine ⟨?_, ?_⟩
      · show (if b.toNat = 45 then r else b :: r) = b :: r
        rw [if_neg (by omega)]
      · show decide (b.toNat = 45) = _
        rw [decide_eq_false (by omega), decide_eq_false c]
/-- What is written is read. -/
theorem parse_itoa {n : Int} (h : n.natAbs ≤ 999999999999999999) : Lib.parseIntB 64 (Lib.itoa n) = .ok n := by
  obtain ⟨h1, h2, h3⟩ := dd_spec n.natAbs
  have P : Lib.parseUintB 64 (Lib.decDigits n.natAbs) = .ok n.natAbs := by
    unfold Lib.parseUintB
    rw [if_neg (fun e => by rw [e] at h3; simp at h3)]
    have := parseM_ok (2 ^ 64 - 1) (by decide) (Lib.decDigits n.natAbs) 0 h1 (by rw [h2]; omega)
    rw [h2] at this
    exact this
  unfold Lib.itoa
  by_cases c : n < 0
  · rw [if_pos c]
    unfold Lib.parseIntB
    simp only
    rw [if_pos (.inr rfl), P]
    simp only
    have e1 : ((45 : UInt8).toNat = 45) := rfl
    rw [if_neg (by simp), if_neg (by omega), if_pos e1]
    congr 1
    omega
  · rw [if_neg c, show n.toNat = n.natAbs by omega]
    cases e : Lib.decDigits n.natAbs with
    | nil => rw [e] at h3; simp at h3
    | cons b r =>
      rw [e] at h1 P
      have hb := h1 b (List.mem_cons_self ..)
      unfold isDg at hb
      unfold Lib.parseIntB
      simp only
      rw [if_neg (by omega), P]
      simp only
      have e1 : ¬ (b.toNat = 45) := by omega
      rw [if_neg (by omega), if_neg (by simp [e1]), if_neg e1]
      congr 1
      omega
theorem dec_list (n : Int) : (dec n).data.toList = Lib.itoa n := by unfold dec; simp
theorem dec_inj {n m : Int} (hn : n.natAbs ≤ 999999999999999999) (hm : m.natAbs ≤ 999999999999999999) (h : dec n = dec m) : n = m := by
  have e : Lib.itoa n = Lib.itoa m := by rw [← dec_list, ← dec_list, h]
  have a := parse_itoa hn
  rw [e, parse_itoa hm] at a
  simp only [Lib.NumEnd.ok.injEq] at a
  exact a.symm
/-- Whether a text is the decimal form of a number in bounds. -/
def IsRd (s : ByteArray) : Prop := ∃ n : Int, n.natAbs ≤ 999999999999999999 ∧ dec n = s
noncomputable def rdA (s : ByteArray) : Int := @dite _ (IsRd s) (Classical.propDecidable _) (fun h => h.choose) (fun _ => 0)
noncomputable def rdB (s : ByteArray) : Bool := @decide (IsRd s) (Classical.propDecidable _)
theorem rd_yes {s : ByteArray} {n : Int} (hn : n.natAbs ≤ 999999999999999999) (h : dec n = s) : rdA s = n ∧ rdB s = true := by
  have hi : IsRd s := ⟨n, hn, h⟩
  unfold rdA rdB
  rw [dif_pos hi]
  exact ⟨dec_inj hi.choose_spec.1 hn (by rw [hi.choose_spec.2, h]), @decide_eq_true _ (Classical.propDecidable _) hi⟩
theorem rd_no {s : ByteArray} (h : ∀ n : Int, n.natAbs ≤ 999999999999999999 → dec n ≠ s) : rdA s = 0 ∧ rdB s = false := by
  have hi : ¬ IsRd s := fun ⟨n, h1, h2⟩ => h n h1 h2
  unfold rdA rdB
  rw [dif_neg hi]
  exact ⟨rfl, @decide_eq_false _ (Classical.propDecidable _) hi⟩
theorem dd_len18 {a : Nat} (h : a ≤ 999999999999999999) : (Lib.decDigits a).length ≤ 18 := decDigits_len 17 a (by omega)
/-- What a text that is read looks like. -/
theorem rd_look {s : ByteArray} {n : Int} (hn : n.natAbs ≤ 999999999999999999) (h : dec n = s) :
    (∀ b ∈ tlB s.data.toList, isDg b) ∧ 1 ≤ (tlB s.data.toList).length ∧ (tlB s.data.toList).length ≤ 18 ∧ vl 0 (tlB s.data.toList) = n.natAbs ∧ sgB s.data.toList = decide (n < 0) := by
  have e : Lib.itoa n = s.data.toList := by rw [← h, dec_list]
  obtain ⟨e1, e2⟩ := itoa_parts e
  obtain ⟨h1, h2, h3⟩ := dd_spec n.natAbs
  rw [e1]
  exact ⟨h1, h3, dd_len18 hn, h2, e2⟩
theorem rdA_bd (s : ByteArray) : -9223372036854775808 ≤ rdA s ∧ rdA s ≤ 9223372036854775807 := by
  by_cases h : IsRd s
  · obtain ⟨n, h1, h2⟩ := h
    rw [(rd_yes h1 h2).1]; omega
  · rw [(rd_no (fun n h1 h2 => h ⟨n, h1, h2⟩)).1]; omega
end Go.Proofs.YtijoejejdnhknaaDoor
