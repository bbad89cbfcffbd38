/- ReadSquare: what is read. Mathematics alone. -/
import Derived.Test.YtaipgfahkpnooaaCut
import Derived.Test.YtaipgfahkpnooaaSqm
import Derived.Lib.SpaceUEq
import Derived.Lib.TrimU
import Derived.Laws.RangeAny
namespace Go.Proofs.Ytaipgfahkpnooaa
open Go.RowKit
set_option linter.unusedVariables false

theorem cut_snoc (c : UInt8) : ∀ l, ∃ A a, cut c l = A ++ [a] ∧ (∀ b, b ≠ c → cut c (l ++ [b]) = A ++ [a ++ [b]]) ∧ cut c (l ++ [c]) = A ++ [a] ++ [[]]
  | [] => ⟨[], [], rfl, fun b h => by simp [cut, h, cutPut], by simp [cut]⟩
  | x :: l => by
    obtain ⟨A, a, e1, e2, e3⟩ := cut_snoc c l
    by_cases h : x = c
    · refine ⟨[] :: A, a, by rw [cut, if_pos h, e1]; rfl, fun b hb => ?_, ?_⟩
      · rw [List.cons_append, cut, if_pos h, e2 b hb]; rfl
      · rw [List.cons_append, cut, if_pos h, e3]; rfl
    · cases A with
      | nil =>
        refine ⟨[], x :: a, by rw [cut, if_neg h, e1]; rfl, fun b hb => ?_, ?_⟩
        · rw [List.cons_append, cut, if_neg h, e2 b hb]; rfl
        · rw [List.cons_append, cut, if_neg h, e3]; rfl
      | cons p A =>
        refine ⟨(x :: p) :: A, a, by rw [cut, if_neg h, e1]; rfl, fun b hb => ?_, ?_⟩
        · rw [List.cons_append, cut, if_neg h, e2 b hb]; rfl
        · rw [List.cons_append, cut, if_neg h, e3]; rfl
theorem cut_mem (c : UInt8) : ∀ l, ∀ p ∈ cut c l, ∀ b ∈ p, b ∈ l ∧ b ≠ c
  | [], p, h, b, hb => by simp only [cut, List.mem_singleton] at h; rw [h] at hb; cases hb
  | x :: l, p, h, b, hb => by
    rw [cut] at h
    by_cases e : x = c
    · rw [if_pos e] at h
      rcases List.mem_cons.1 h with rfl | h
      · cases hb
      · have := cut_mem c l p h b hb
        exact ⟨List.mem_cons_of_mem _ this.1, this.2⟩
    · rw [if_neg e] at h
      cases k : cut c l with
      | nil => exact absurd k (cut_ne c l)
      | cons q r =>
        rw [k] at h
        rcases List.mem_cons.1 h with rfl | h
        · rcases List.mem_cons.1 hb with rfl | hb
          · exact ⟨List.mem_cons_self .., e⟩
          · have := cut_mem c l q (by rw [k]; exact List.mem_cons_self ..) b hb
            exact ⟨List.mem_cons_of_mem _ this.1, this.2⟩
        · have := cut_mem c l p (by rw [k]; exact List.mem_cons_of_mem _ h) b hb
          exact ⟨List.mem_cons_of_mem _ this.1, this.2⟩
theorem cut_cover (c : UInt8) : ∀ l, ∀ b ∈ l, b = c ∨ ∃ p ∈ cut c l, b ∈ p
  | [], b, h => by cases h
  | x :: l, b, h => by
    rw [cut]
    by_cases e : x = c
    · rw [if_pos e]
      rcases List.mem_cons.1 h with rfl | h
      · exact .inl e
      · rcases cut_cover c l b h with h | ⟨p, hp, hb⟩
        · exact .inl h
        · exact .inr ⟨p, List.mem_cons_of_mem _ hp, hb⟩
    · rw [if_neg e]
      cases k : cut c l with
      | nil => exact absurd k (cut_ne c l)
      | cons q r =>
        rcases List.mem_cons.1 h with rfl | h
        · exact .inr ⟨b :: q, List.mem_cons_self .., List.mem_cons_self ..⟩
        · rcases cut_cover c l b h with h | ⟨p, hp, hb⟩
          · exact .inl h
          · rw [k] at hp
            rcases List.mem_cons.1 hp with rfl | hp
            · exact .inr ⟨x :: p, List.mem_cons_self .., List.mem_cons_of_mem _ hb⟩
            · exact .inr ⟨p, List.mem_cons_of_mem _ hp, hb⟩

/-- A digit. -/
def dg7 (b : UInt8) : Prop := 48 ≤ b.toNat ∧ b.toNat ≤ 57
def vl7 (b : UInt8) : Int := (b.toNat : Int) - 48
def row7 (p : List UInt8) : List Int := p.map vl7
def rows7 (l : List UInt8) : List (List Int) := (cut 47 l).map row7
def ok7 (l : List UInt8) : Prop := ∀ b ∈ l, b = 47 ∨ dg7 b
noncomputable def ReadSquare_1 (s : ByteArray) : Bool := @decide (ok7 s.data.toList ∧ IsSq (rows7 s.data.toList)) (Classical.propDecidable _)
noncomputable def ReadSquare_0 (s : ByteArray) : List (List Int) := if ReadSquare_1 s = true then rows7 s.data.toList else []
theorem read_yes {s : ByteArray} (h : ok7 s.data.toList) (z : sqB (rows7 s.data.toList) = true) : ReadSquare_1 s = true ∧ ReadSquare_0 s = rows7 s.data.toList := by
  have e : ReadSquare_1 s = true := @decide_eq_true _ (Classical.propDecidable _) ⟨h, of_sqB z⟩
  exact ⟨e, by unfold ReadSquare_0; rw [if_pos e]⟩
theorem read_no {s : ByteArray} (h : ¬ (ok7 s.data.toList ∧ IsSq (rows7 s.data.toList))) : ReadSquare_1 s = false ∧ ReadSquare_0 s = [] := by
  have e : ReadSquare_1 s = false := @decide_eq_false _ (Classical.propDecidable _) h
  exact ⟨e, by unfold ReadSquare_0; rw [e]; rfl⟩
theorem read_nosq {s : ByteArray} (z : sqB (rows7 s.data.toList) = false) : ReadSquare_1 s = false ∧ ReadSquare_0 s = [] :=
  read_no fun k => by rw [sqB_true k.2] at z; cases z
theorem read_bad {s : ByteArray} {b : UInt8} (hb : b ∈ s.data.toList) (h1 : b ≠ 47) (h2 : ¬ dg7 b) : ReadSquare_1 s = false ∧ ReadSquare_0 s = [] :=
  read_no fun k => by rcases k.1 b hb with e | e; exact h1 e; exact h2 e
theorem tot_sq {xss : List (List Int)} (n : Nat) : (∀ x ∈ xss, x.length ≤ n) → tot xss ≤ xss.length * n := by
  induction xss with
  | nil => intro _; simp [tot]
  | cons x xss ih =>
    intro h
    have := ih (fun y hy => h y (List.mem_cons_of_mem _ hy))
    have := h x (List.mem_cons_self ..)
    simp only [tot, List.length_cons, Nat.add_mul, Nat.one_mul, List.map_cons, List.sum_cons] at *
    omega
theorem lenReadSquare_0 (s : ByteArray) (hs : s.size ≤ 1048576) : (ReadSquare_0 s).length + tot (ReadSquare_0 s) ≤ 2000000 := by
  by_cases h : ok7 s.data.toList ∧ IsSq (rows7 s.data.toList)
  · rw [(read_yes h.1 (sqB_true h.2)).2]
    obtain ⟨R, hR⟩ : ∃ R, rows7 s.data.toList = R := ⟨_, rfl⟩
    rw [hR] at h ⊢
    have h1 := h.2.hi
    have := tot_sq (xss := R) R.length (fun x hx => by
      obtain ⟨k, hk, rfl⟩ := List.mem_iff_getElem.1 hx
      have := (h.2.row k hk).1
      simp only [List.getD, List.getElem?_eq_getElem hk, Option.getD_some] at this
      omega)
    have : R.length * R.length ≤ 10 * 10 := Nat.mul_le_mul h1 h1
    omega
  · rw [(read_no h).2]; decide
/-- The rune at a place. -/
theorem rune7 (s : ByteArray) (pos : Nat) (h : pos < s.size) (a : ¬ s[pos].toNat < 128) : 128 ≤ (Go.Utf8.decode s pos).1 := by
  rw [Lib.decode_at]
  have g : (s.get! pos).toNat = s[pos].toNat := by
    obtain ⟨d⟩ := s
    simp only [ByteArray.get!]
    rw [getElem!_pos d pos h]
    rfl
  have k := Lib.decodeN_cases (s.size - pos) (s.get! pos).toNat (s.get! (pos + 1)).toNat (s.get! (pos + 2)).toNat (s.get! (pos + 3)).toNat
  rcases k with ⟨x, _⟩ | ⟨_, _, _, x, e⟩ | ⟨_, _, _, _, x, e⟩ | ⟨x, _⟩ | e
  · omega
  · rw [e]; exact x
  · rw [e]; show 128 ≤ _; omega
  · omega
  · rw [e]; show 128 ≤ 65533; omega
theorem rune7_hi (s : ByteArray) (pos : Nat) : (Go.Utf8.decode s pos).1 ≤ 2000000000 := by
  rw [Lib.decode_at]
  have g := Lib.decodeN_rune_le (s.size - pos) (s.get! pos).toNat (s.get! (pos + 1)).toNat (s.get! (pos + 2)).toNat (s.get! (pos + 3)).toNat (UInt8.toNat_lt _)
  omega
end Go.Proofs.Ytaipgfahkpnooaa
