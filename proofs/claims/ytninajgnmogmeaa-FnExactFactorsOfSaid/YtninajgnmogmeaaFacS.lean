/- FactorsOf and IsPrime of the model. -/
import Derived.Test.YtninajgnmogmeaaSl
import Derived.Test.YtninajgnmogmeaaFac
namespace Go.Proofs.Ytninajgnmogmeaa
open Go.RowKit
set_option linter.unusedVariables false

def ints (xs : List Nat) : List Int := xs.map (fun a : Nat => (a : Int))
theorem ints_snoc (xs : List Nat) (a : Nat) : ints (xs ++ [a]) = ints xs ++ [(a : Int)] := by simp [ints]
theorem ints_length (xs : List Nat) : (ints xs).length = xs.length := by simp [ints]

/-- A slice of the call's own that holds the prime factors. -/
def FacOut (n : Nat) (w w' : World) (v : Value) : Prop := ∃ xs, Fac n xs ∧ Ints w' w.heap.size v (ints xs) ∧ Below w.heap.size w w'

theorem sfactors_no (n : Int) (w : World) (h : n < 1 ∨ 1000000 < n) :
    Calls Try.prog 26 #[.int .i64 n] w fun e w' => ∃ v, e = .returned v ∧ Ints w' w.heap.size v [] ∧ Below w.heap.size w w' := by
  have H := Lib.hid h
  clear h
  go_enter Try.func26, Try.ntmps26
  go_wp2_with (go_at_call 53; refine (in_no _ _ _ _ H.out).mono ?_; rintro e w' ⟨rfl, rfl⟩)
  go_ret
  exact ⟨_, rfl, World.ownsRow_nil _ _ _ _, Below.refl _ _⟩

set_option maxHeartbeats 1600000 in
theorem sfactors (n : Nat) (w : World) (h1 : 1 ≤ n) (h2 : n ≤ 1000000) :
    Calls Try.prog 26 #[.int .i64 n] w fun e w' => ∃ v, e = .returned v ∧ FacOut n w w' v := by
  have a1 : (1 : Int) ≤ (n : Int) := by omega
  have a2 : (n : Int) ≤ 1000000 := by omega
  go_enter Try.func26, Try.ntmps26
  go_wp2_with (go_at_call 53; refine (in_yes _ _ _ _ a1 a2).mono ?_; rintro e w' ⟨rfl, rfl⟩)
  obtain ⟨wo, hwo⟩ : ∃ wo, w.alloc (.cells #[] 2) = wo := ⟨_, rfl⟩
  have HI : Ints wo w.heap.size (.slice (some ⟨w.heap.size, 0, none⟩) 0 0) [] := by rw [← hwo]; exact World.ownsRow_made w #[] 0 (Nat.le_refl _) (by decide) rfl
  have HB : Below w.heap.size w wo := by rw [← hwo]; exact (Below.refl _ _).alloc (Nat.le_refl _) _
  rw [hwo]
  clear hwo
  obtain ⟨B, hB⟩ : ∃ B, w.heap.size = B := ⟨_, rfl⟩
  rw [hB] at HI HB ⊢
  have HE := Lib.hid hB
  have hB0 : B ≤ w.heap.size := by omega
  clear hB
  have HI' := Lib.hid HI
  have HB' := Lib.hid HB
  clear HI HB
  go_loopw [0, 3, 4] (fun r v d wr => ∃ (k m : Nat) (out : List Nat), 2 ≤ k ∧ k ≤ 1001 ∧ d = .int .i64 k ∧ r = .int .i64 m ∧ Hid (Left n m out ∧ NoDiv m k) ∧ Hid (Ints wr B v (ints out)) ∧ Hid (Below B w wr)) (fun _ _ d _ => 1001 - (intOf d).toNat)
  case atStart => exact ⟨2, n, [], by omega, by omega, rfl, rfl, ⟨left_start n h1, fun e e1 e2 => by omega⟩, HI', HB'⟩
  case round =>
    obtain ⟨k, m, out, k2, k3, rfl, rfl, hL, hI, hBl⟩ := hrel
    have m1 := hL.out.1.1
    have m2 : m ≤ 1000000 := by have := hL.out.1.2.1; omega
    have s1 : B ≤ wr.heap.size := by have := hBl.out.size; omega
    have kk : k * k ≤ 1001 * 1001 := Nat.mul_le_mul k3 k3
    have kk' : (k : Int) * (k : Int) ≤ 1002001 := by have := Int.ofNat_le.2 kk; simpa using this
    have kk0 : (0 : Int) ≤ (k : Int) * (k : Int) := Int.mul_nonneg (by omega) (by omega)
    by_cases hle : k * k ≤ m
    · have hle' : (k : Int) * (k : Int) ≤ (m : Int) := by have := Int.ofNat_le.2 hle; simpa using this
      have k4 : k ≤ 1000 := by
        by_cases e : k = 1001
        · subst e; omega
        · omega
      have z1 : ¬ (k : Int) = 0 := by omega
      obtain ⟨wq, rfl⟩ : ∃ wq : World, wq = wr := ⟨_, rfl⟩
      go_wp2
      go_loopw [0, 3] (fun r v wr => ∃ (m : Nat) (out : List Nat), r = .int .i64 m ∧ Hid (Left n m out ∧ NoDiv m k) ∧ Hid (Ints wr B v (ints out)) ∧ Hid (Below B w wr)) (fun r _ _ => (intOf r).toNat)
      case atStart => exact ⟨m, out, rfl, hL, hI, hBl⟩
      case round =>
        obtain ⟨m', out', rfl, hL', hI', hBl'⟩ := hrel
        have q1 := hL'.out.1.1
        have q2 : m' ≤ 1000000 ∧ out'.length ≤ 1000000 := by have := hL'.out.1.2.1; omega
        have s2 : B ≤ wr.heap.size := by have := hBl'.out.size; omega
        have hlen := ints_length out'
        have q3 := q2.1
        have q4 := q2.2
        by_cases hd : k ∣ m'
        · have hT : ((m' : Int) % (k : Int) == 0) = true := by rw [beq_iff_eq, ← Int.dvd_iff_emod_eq_zero]; exact Int.ofNat_dvd.2 hd
          have hmin := hL'.out.2.min k2 hd
          have L2 := Lib.hid (show Left n (m' / k) (out' ++ [k]) ∧ NoDiv (m' / k) k from ⟨left_step hL'.out.1 hmin, hL'.out.2.div hd⟩)
          obtain ⟨d1, d2, -⟩ := div_pos' q1 k2 hd
          have S1 := Lib.hid (ints_snoc out' k)
          have e1 : (m' : Int) / (k : Int) = ((m' / k : Nat) : Int) := (Int.natCast_ediv m' k).symm
          clear hd hmin q2
          have E1 := Lib.hid e1
          clear e1
          go_wp2_with (at_builtin; refine wpList_push wr (by rfl) _ _ (by rfl) B _ _ (by rfl) hI'.out k _ (by rfl) (by omega) s2 ?_; intro v' w1 hn hb; have HN' := Lib.hid hn; have HB2 := Lib.hid hb; clear hn hb)
          go_roundw
          case rel => exact ⟨m' / k, out' ++ [k], congrArg (Value.int .i64) E1.out, L2, by rw [S1.out]; exact HN', hBl'.out.trans HB2.out⟩
          case measure => rw [E1.out]; simp only [intOf, Int.toNat_natCast]; omega
        · have hT : ((m' : Int) % (k : Int) == 0) = false := by
            have : ¬ (k : Int) ∣ (m' : Int) := fun h => hd (Int.ofNat_dvd.1 h)
            rw [Int.dvd_iff_emod_eq_zero] at this
            simpa using this
          have L2 := Lib.hid (show Left n m' out' ∧ NoDiv m' (k + 1) from ⟨hL'.out.1, hL'.out.2.succ hd⟩)
          clear hd q2
          go_wp2
          go_roundw
          case rel => exact ⟨k + 1, m', out', by omega, by omega, by go_num, rfl, L2, hI', hBl'⟩
          case measure => simp [intOf]; omega
    · have hle' : ¬ (k : Int) * (k : Int) ≤ (m : Int) := by
        intro h
        have : ((k * k : Nat) : Int) ≤ (m : Int) := by simpa using h
        omega
      by_cases hm : 1 < m
      · have V := Lib.hid (left_prime hL.out.1 (hL.out.2.prime hm (by omega)))
        have S1 := Lib.hid (ints_snoc out m)
        have hm' : (1 : Int) < (m : Int) := by omega
        have q4 : out.length ≤ 1000000 := by have := hL.out.1.2.1; omega
        have hlen := ints_length out
        go_wp2_with (at_builtin; refine wpList_push wr (by rfl) _ _ (by rfl) B _ _ (by rfl) hI.out m _ (by rfl) (by omega) s1 ?_; intro v' w1 hn hb; have HN' := Lib.hid hn; have HB2 := Lib.hid hb; clear hn hb)
        go_ret
        exact ⟨_, rfl, _, V.out, by rw [S1.out, HE.out]; exact HN'.out, by rw [HE.out]; exact hBl.out.trans HB2.out⟩
      · obtain rfl : m = 1 := by omega
        have V := Lib.hid (left_one hL.out.1)
        go_wp2
        go_ret
        exact ⟨_, rfl, _, V.out, by rw [HE.out]; exact hI.out, by rw [HE.out]; exact hBl.out⟩
end Go.Proofs.Ytninajgnmogmeaa
