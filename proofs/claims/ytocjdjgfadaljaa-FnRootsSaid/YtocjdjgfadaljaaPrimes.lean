/- primesTo answers the primes up to a limit. -/
import Derived.Test.YtocjdjgfadaljaaSieve
import Derived.Test.YtocjdjgfadaljaaFacS
namespace Go.Proofs.Ytocjdjgfadaljaa
open Go.RowKit
set_option linter.unusedVariables false

/-- What is marked when all primes below k have been treated. -/
def Sifted (k m : Nat) : Prop := ∃ q, Pr q ∧ q < k ∧ q ∣ m ∧ q * q ≤ m
theorem sifted_self {k : Nat} (h : 2 ≤ k) : Sifted k k ↔ ¬ Pr k := by
  constructor
  · rintro ⟨q, q1, q2, q3, q4⟩ hk
    exact hk.2.2 q q1.1 q2 q3
  · intro hn
    obtain ⟨q, q1, q2, q3, q4⟩ := not_pr_divisor k h hn
    exact ⟨q, q1, q3, q2, q4⟩
theorem sifted_no {k m : Nat} (h : ¬ Pr k) : Sifted k m ↔ Sifted (k + 1) m := by
  constructor
  · rintro ⟨q, q1, q2, q3, q4⟩; exact ⟨q, q1, by omega, q3, q4⟩
  · rintro ⟨q, q1, q2, q3, q4⟩
    by_cases e : q = k
    · subst e; exact absurd q1 h
    · exact ⟨q, q1, by omega, q3, q4⟩
/-- .. and of the prime k itself the multiples below t. -/
def Sifting (k t m : Nat) : Prop := Sifted k m ∨ (k ∣ m ∧ k * k ≤ m ∧ m < t)
theorem sifting_start {k m : Nat} : Sifted k m ↔ Sifting k (k * k) m := ⟨.inl, fun h => h.elim id fun ⟨_, a, b⟩ => by omega⟩
theorem sifting_step {k t m : Nat} (hk : 2 ≤ k) (ht : k ∣ t) (h0 : k * k ≤ t) : (Sifting k t m ∨ m = t) ↔ Sifting k (t + k) m := by
  constructor
  · rintro ((h | ⟨a, b, c⟩) | rfl)
    · exact .inl h
    · exact .inr ⟨a, b, by omega⟩
    · exact .inr ⟨ht, h0, by omega⟩
  · rintro (h | ⟨a, b, c⟩)
    · exact .inl (.inl h)
    · by_cases e : m < t
      · exact .inl (.inr ⟨a, b, e⟩)
      · right
        have : k ∣ m - t := Nat.dvd_sub a ht
        by_cases z : m - t = 0
        · omega
        · have := Nat.le_of_dvd (by omega) this; omega
theorem sifting_end {k t m : Nat} (h : Pr k) (hm : m < t) : Sifting k t m ↔ Sifted (k + 1) m := by
  constructor
  · rintro (⟨q, q1, q2, q3, q4⟩ | ⟨a, b, c⟩)
    · exact ⟨q, q1, by omega, q3, q4⟩
    · exact ⟨k, h, by omega, a, b⟩
  · rintro ⟨q, q1, q2, q3, q4⟩
    by_cases e : q = k
    · subst e; exact .inr ⟨q3, q4, hm⟩
    · exact .inl ⟨q, q1, by omega, q3, q4⟩
theorem sifted_two (m : Nat) : ¬ Sifted 2 m := by
  rintro ⟨q, q1, q2, _⟩
  have := q1.1
  omega

theorem prs_two : prs 2 = [] := by
  rw [show (2 : Nat) = 1 + 1 from rfl, prs_no (fun h => by have := h.1; omega), show (1 : Nat) = 0 + 1 from rfl, prs_no (fun h => by have := h.1; omega)]
  rfl

def zeros16 : Array Value := #[.int .u64 0, .int .u64 0, .int .u64 0, .int .u64 0, .int .u64 0, .int .u64 0, .int .u64 0, .int .u64 0, .int .u64 0, .int .u64 0, .int .u64 0, .int .u64 0, .int .u64 0, .int .u64 0, .int .u64 0, .int .u64 0]
theorem sv_new (w : World) (L : Nat) : Sv (w.alloc (.cells zeros16 70)) w.heap.size L (Sifted 2) := by
  refine ⟨fun _ => 0, ?_, fun _ => Nat.zero_lt_of_lt (b := 18446744073709551616) (Nat.lt_of_lt_of_le (Nat.zero_lt_one) (by omega)), fun m _ => ?_⟩
  · have e : zeros16 = Array.replicate 16 (.int .u64 ((0 : Nat) : Int)) := rfl
    have := World.rowIs_alloc w zeros16 70 (fun _ => .int .u64 ((0 : Nat) : Int)) (fun j hj => by
      rw [e] at hj ⊢
      rw [Array.getElem?_replicate, if_pos (by simpa using hj)])
    exact this
  · simp only [Nat.zero_testBit]
    exact ⟨fun h => absurd h (by simp), fun h => absurd h (sifted_two m)⟩

set_option maxHeartbeats 3200000 in
theorem primesTo_any (L : Nat) (w : World) (h1 : 1 ≤ L) (h2 : L ≤ 1000) :
    Calls Try.prog 43 #[.int .i64 L] w fun e w' => ∃ v, e = .returned v ∧ Ints w' w.heap.size v (ints (prs (L + 1))) ∧ Below w.heap.size w w' := by
  have l1 : (1 : Int) ≤ (L : Int) := by omega
  have l2 : (L : Int) ≤ 1000 := by omega
  go_enter Try.func43, Try.ntmps43
  go_wp2_with fail
  obtain ⟨wo, hwo⟩ : ∃ wo, w.alloc (.cells zeros16 70) = wo := ⟨_, rfl⟩
  have HS0 := Lib.hid (sv_new w L)
  have HB0 := Lib.hid ((Below.refl w.heap.size w).alloc (Nat.le_refl _) (.cells zeros16 70))
  have hsz : (w.alloc (.cells zeros16 70)).heap.size = w.heap.size + 1 := by simp
  rw [hwo] at HS0 HB0 hsz
  change Code.wp _ _ _ _ (w.alloc (.cells zeros16 70))
  rw [hwo]
  clear hwo
  obtain ⟨b, hb⟩ : ∃ b, w.heap.size = b := ⟨_, rfl⟩
  rw [hb] at HS0 HB0 hsz ⊢
  have hb0 : b ≤ w.heap.size := by omega
  have hs1 : b + 1 ≤ wo.heap.size := by omega
  have HE := Lib.hid hb
  clear hb hsz
  go_loopw [4, 5] (fun v d wr => ∃ k : Nat, 2 ≤ k ∧ k ≤ L + 1 ∧ d = .int .i64 k ∧ Hid (Ints wr (b + 1) v (ints (prs k))) ∧ Hid (Sv wr b L (Sifted k)) ∧ Hid (Below b w wr) ∧ b + 1 ≤ wr.heap.size) (fun _ d _ => 1001 - (intOf d).toNat)
  case atStart => exact ⟨2, by omega, by omega, rfl, by rw [prs_two]; exact World.ownsRow_nil _ _ _ _, HS0, HB0, hs1⟩
  case round =>
    obtain ⟨k, k2, k3, rfl, hI, hSv, hBl, hsz⟩ := hrel
    have hlen : (ints (prs k)).length ≤ k := by rw [ints_length]; exact prs_length k
    by_cases hle : k ≤ L
    · have hle' : (k : Int) ≤ (L : Int) := by omega
      by_cases hp : Pr k
      · have K := Lib.hid (fun W (h : Sv W b L (Sifted k)) => sv_marked W b L k (Sifted k) h h2 hle false (by simp only [Bool.false_eq_true, false_iff]; rw [sifted_self k2]; exact fun h => h hp))
        have S1 := Lib.hid (show ints (prs (k + 1)) = ints (prs k) ++ [(k : Int)] by rw [prs_yes hp, ints_snoc])
        have HP := Lib.hid hp
        have kk : k * k ≤ 1000 * 1000 := Nat.mul_le_mul (by omega) (by omega)
        have kk1 : (k : Int) * (k : Int) ≤ 1000000 := by have := Int.ofNat_le.2 kk; simpa using this
        have kk0 : (0 : Int) ≤ (k : Int) * (k : Int) := Int.mul_nonneg (by omega) (by omega)
        clear hp
        obtain ⟨wq, rfl⟩ : ∃ wq : World, wq = wr := ⟨_, rfl⟩
        go_wp2_with (first | (go_at_call 59; refine (K.out _ hSv.out).mono ?_; rintro e w' ⟨rfl, rfl⟩) | (at_builtin; refine wpList_push wq (by rfl) _ _ (by rfl) (b + 1) _ _ (by rfl) hI.out k _ (by rfl) (by omega) hsz ?_; intro v' w1 hn hb; have HN' := Lib.hid hn; have HB2 := Lib.hid hb; clear hn hb))
        have HI2 : Hid (Ints w1 (b + 1) v' (ints (prs (k + 1)))) := by rw [S1.out]; exact HN'
        have HSv2 : Hid (Sv w1 b L (Sifting k (k * k))) := (hSv.out.keep HB2.out (by omega)).congr fun m _ => sifting_start
        have HBl2 : Hid (Below b w w1) := hBl.out.trans (HB2.out.mono (by omega))
        have hsz2 : b + 1 ≤ w1.heap.size := by have := HB2.out.size; omega
        clear HN' HB2 hI hSv hBl
        go_loopw [6] (fun t wr => ∃ m : Nat, k * k ≤ m ∧ m ≤ 1001000 ∧ t = .int .i64 m ∧ Hid (k ∣ m) ∧ Hid (Ints wr (b + 1) v' (ints (prs (k + 1)))) ∧ Hid (Sv wr b L (Sifting k m)) ∧ Hid (Below b w wr) ∧ b + 1 ≤ wr.heap.size) (fun t _ => 1002000 - (intOf t).toNat)
        case atStart => exact ⟨k * k, Nat.le_refl _, by omega, by go_num, ⟨k, rfl⟩, HI2, HSv2, HBl2, hsz2⟩
        case round =>
          obtain ⟨m, m0, m1, rfl, hd, hI, hSv, hBl, hsz⟩ := hrel
          by_cases hml : m ≤ L
          · have hml' : (m : Int) ≤ (L : Int) := by omega
            have K2 := Lib.hid (sv_mark wr b L m _ hSv.out h2 (by omega))
            have D2 := Lib.hid (show k ∣ m + k from Nat.dvd_add hd.out (Nat.dvd_refl k))
            go_wp2_with (go_at_call 60; refine (K2.out).mono ?_; rintro e w' ⟨rfl, hS, hG⟩; have HS3 := Lib.hid hS; have HG := Lib.hid hG; clear hS hG)
            go_roundw
            case rel => exact ⟨m + k, by omega, by omega, by go_num, D2, hI.out.grown HG.out (by
              cases e : v'.ownBlock with
              | none => exact .inl rfl
              | some q => right; intro e'; have := (World.ownsRow.lt hI.out q e).1; simp at e'; omega), HS3.out.congr (fun j _ => sifting_step k2 hd.out m0), hBl.out.trans (below_of_grown HG.out (by omega) (fun q hq => by simp at hq; omega)), by have := HG.out.size; omega⟩
            case measure => simp [intOf]; omega
          · have HSv3 : Hid (Sv wr b L (Sifted (k + 1))) := hSv.out.congr fun j hj => sifting_end HP.out (by omega)
            go_wp2
            go_roundw
            case rel => exact ⟨k + 1, by omega, by omega, by go_num, hI, HSv3, hBl, hsz⟩
            case measure => simp [intOf]; omega
      · have K := Lib.hid (fun W (h : Sv W b L (Sifted k)) => sv_marked W b L k (Sifted k) h h2 hle true (by simp only [true_iff]; rw [sifted_self k2]; exact hp))
        have S1 := Lib.hid (show ints (prs (k + 1)) = ints (prs k) by rw [prs_no hp])
        have HSv2 : Hid (Sv wr b L (Sifted (k + 1))) := hSv.out.congr fun m _ => sifted_no hp
        clear hp
        go_wp2_with (go_at_call 59; refine (K.out _ hSv.out).mono ?_; rintro e w' ⟨rfl, rfl⟩)
        go_roundw
        case rel => exact ⟨k + 1, by omega, by omega, by go_num, by rw [S1.out]; exact hI, HSv2, hBl, hsz⟩
        case measure => simp [intOf]; omega
    · obtain rfl : k = L + 1 := by omega
      have hle' : ¬ ((L + 1 : Nat) : Int) ≤ (L : Int) := by omega
      have hle2 : ¬ ((L : Int) + 1) ≤ (L : Int) := by omega
      go_wp2
      go_ret
      exact ⟨_, rfl, by rw [HE.out]; exact hI.out.mono (by omega), by rw [HE.out]; exact hBl.out⟩
end Go.Proofs.Ytocjdjgfadaljaa
