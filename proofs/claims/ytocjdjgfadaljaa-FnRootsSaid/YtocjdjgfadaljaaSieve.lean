/- The sieve: a set of numbers as bits. -/
import Derived.Test.YtocjdjgfadaljaaSl
import Derived.Test.YtocjdjgfadaljaaFac
import Derived.RegionTactic
import Derived.ChangeAlike
import Derived.Laws.BitsAllLaws
import Derived.WalkLawsBesides
namespace Go.Proofs.Ytocjdjgfadaljaa
open Go.RowKit
set_option linter.unusedVariables false

theorem bit_test (x k : Nat) (hx : x < 18446744073709551616) : (bits .and .u64 ((x : Int) / 2 ^ k) 1 == 1) = x.testBit k := by
  have e : (x : Int) / 2 ^ k = ((x / 2 ^ k : Nat) : Int) := by
    rw [Int.natCast_ediv, Int.natCast_pow]; rfl
  have hlt : x / 2 ^ k < 18446744073709551616 := Nat.lt_of_le_of_lt (Nat.div_le_self _ _) hx
  rw [e, show (1 : Int) = ((1 : Nat) : Int) from rfl, u64_and_nat _ 1 hlt (by omega), nat_mask1, Nat.testBit_eq_decide_div_mod_eq]
  cases h : decide (x / 2 ^ k % 2 = 1)
  · have := of_decide_eq_false h
    simp; omega
  · have := of_decide_eq_true h
    simp; omega

theorem marked_any (w : World) (b n x : Nat) (hn : n ≤ 1000) (hx : x < 18446744073709551616) (hc : w.cell? ⟨b, n / 64, none⟩ = some (.int .u64 x)) :
    Calls Try.prog 59 #[.pointer (some ⟨b, 0, none⟩), .int .i64 n] w fun e w' => e = .returned (.bool (x.testBit (n % 64))) ∧ w = w' := by
  have n0 : (0 : Int) ≤ (n : Int) := by omega
  have n1 : (n : Int) ≤ 1000 := by omega
  have HX := Lib.hid hx
  clear hx
  have e5 : (n : Int) / 64 < 16 := by omega
  have e6 : (0 : Int) ≤ (n : Int) / 64 := by omega
  go_enter Try.func59, Try.ntmps59
  go_wp2_with fail
  go_ret
  exact ⟨ret_b _ _ (bit_test x (n % 64) HX.out), rfl⟩

theorem bit_set (x k : Nat) (hx : x < 18446744073709551616) (hk : k < 64) : bits .or .u64 (x : Int) (IntKind.u64.wrap (2 ^ k)) = ((x ||| 2 ^ k : Nat) : Int) := by
  have e : (2 : Int) ^ k = ((2 ^ k : Nat) : Int) := by rw [Int.natCast_pow]; rfl
  have hlt : 2 ^ k < 2 ^ 64 := Nat.pow_lt_pow_right (by omega) hk
  have e64 : (2 : Nat) ^ 64 = 18446744073709551616 := by decide
  rw [e]
  rw [e64] at hlt
  generalize 2 ^ k = y at hlt
  rw [IntKind.wrap_u64, show (y : Int) % 18446744073709551616 = (y : Int) by omega]
  exact u64_or_nat x y hx hlt

theorem mark_any (w : World) (b n x : Nat) (hn : n ≤ 1000) (hx : x < 18446744073709551616) (hc : w.cell? ⟨b, n / 64, none⟩ = some (.int .u64 x)) (hf : w.frozen? ⟨b, n / 64, none⟩ = false) :
    Calls Try.prog 60 #[.pointer (some ⟨b, 0, none⟩), .int .i64 n] w fun e w' => e = .returned (.tuple #[]) ∧ ∃ d, w' = (w.setCell ⟨b, n / 64, none⟩ (.int .u64 (x ||| 2 ^ (n % 64) : Nat))).drewN d := by
  have n0 : (0 : Int) ≤ (n : Int) := by omega
  have n1 : (n : Int) ≤ 1000 := by omega
  have HX := Lib.hid hx
  clear hx
  have e5 : (n : Int) / 64 < 16 := by omega
  have e6 : (0 : Int) ≤ (n : Int) / 64 := by omega
  go_enter Try.func60, Try.ntmps60
  go_wp2
  go_region
  all_goals go_end0
  all_goals exact ⟨rfl, 1, by rw [bit_set x (n % 64) HX.out (Nat.mod_lt _ (by omega))]; rfl⟩

/-- Block b is a sieve in which the numbers of S are marked. -/
def Sv (w : World) (b L : Nat) (S : Nat → Prop) : Prop := ∃ c : Nat → Nat, w.rowIs b 70 16 (fun i => .int .u64 (c i)) ∧ (∀ i, c i < 18446744073709551616) ∧ ∀ m, m ≤ L → ((c (m / 64)).testBit (m % 64) = true ↔ S m)

theorem Sv.congr {w : World} {b L : Nat} {S T : Nat → Prop} (h : Sv w b L S) (e : ∀ m, m ≤ L → (S m ↔ T m)) : Sv w b L T := by
  obtain ⟨c, h1, h2, h3⟩ := h
  exact ⟨c, h1, h2, fun m hm => (h3 m hm).trans (e m hm)⟩

theorem Sv.keep {w w' : World} {b L B : Nat} {S : Nat → Prop} (h : Sv w b L S) (hb : Below B w w') (hB : b < B) : Sv w' b L S := by
  obtain ⟨c, h1, h2, h3⟩ := h
  exact ⟨c, h1.of_block (hb.block b hB), h2, h3⟩

theorem sv_marked (w : World) (b L n : Nat) (S : Nat → Prop) (h : Sv w b L S) (hL : L ≤ 1000) (hn : n ≤ L) (r : Bool) (hr : r = true ↔ S n) :
    Calls Try.prog 59 #[.pointer (some ⟨b, 0, none⟩), .int .i64 n] w fun e w' => e = .returned (.bool r) ∧ w = w' := by
  obtain ⟨c, h1, h2, h3⟩ := h
  refine (marked_any w b n (c (n / 64)) (by omega) (h2 _) (h1.cell (i := n / 64) (by omega))).mono fun e w' ⟨he, hw⟩ => ⟨?_, hw⟩
  rw [he]
  congr 2
  have := h3 n hn
  cases r <;> cases hq : (c (n / 64)).testBit (n % 64) <;> simp_all

theorem sv_mark (w : World) (b L n : Nat) (S : Nat → Prop) (h : Sv w b L S) (hL : L ≤ 1000) (hn : n ≤ 1000) :
    Calls Try.prog 60 #[.pointer (some ⟨b, 0, none⟩), .int .i64 n] w fun e w' => e = .returned (.tuple #[]) ∧ Sv w' b L (fun m => S m ∨ m = n) ∧ w.grownBy w' (some b) := by
  obtain ⟨c, h1, h2, h3⟩ := h
  refine (mark_any w b n (c (n / 64)) hn (h2 _) (h1.cell (i := n / 64) (by omega)) (h1.frozen _)).mono fun e w' ⟨he, d, hw⟩ => ⟨he, ?_, ?_⟩
  · subst hw
    refine ⟨fun j => if j = n / 64 then c (n / 64) ||| 2 ^ (n % 64) else c j, ?_, ?_, ?_⟩
    · refine (World.rowIs.congr (h1.set (n / 64) (.int .u64 (c (n / 64) ||| 2 ^ (n % 64) : Nat))) fun j hj => ?_)
      show (if j = n / 64 then _ else _) = Value.int .u64 ((if j = n / 64 then _ else _ : Nat) : Int)
      split <;> rfl
    · intro i
      show (if i = n / 64 then _ else _) < _
      split
      · have e64 : (2 : Nat) ^ 64 = 18446744073709551616 := by decide
        rw [← e64]
        exact Nat.or_lt_two_pow (by rw [e64]; exact h2 _) (Nat.pow_lt_pow_right (by omega) (Nat.mod_lt _ (by omega)))
      · exact h2 i
    · intro m hm
      show (if m / 64 = n / 64 then _ else _ : Nat).testBit (m % 64) = true ↔ _
      by_cases e : m / 64 = n / 64
      · rw [if_pos e, Nat.testBit_or, Nat.testBit_two_pow, ← e, Bool.or_eq_true, h3 m hm, decide_eq_true_eq]
        constructor
        · rintro (h | h)
          · exact .inl h
          · exact .inr (by omega)
        · rintro (h | h)
          · exact .inl h
          · exact .inr (by omega)
      · rw [if_neg e, h3 m hm]
        constructor
        · exact .inl
        · rintro (h | h)
          · exact h
          · subst h; exact absurd rfl e
  · subst hw
    exact ⟨rfl, rfl, rfl, by simp [World.setCell], fun k _ hk => Below.heap_setCell _ _ _ _ (fun e => hk (by rw [e]))⟩
end Go.Proofs.Ytocjdjgfadaljaa
