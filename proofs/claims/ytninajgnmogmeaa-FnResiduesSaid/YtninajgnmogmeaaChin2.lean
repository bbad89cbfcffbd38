/- SolveChinese of the program. -/
import Derived.Test.YtninajgnmogmeaaChin
import Derived.Deep.DeepMust
namespace Go.Proofs.Ytninajgnmogmeaa
open Go.RowKit
set_option linter.unusedVariables false

/-- A quiet callee behind a draw. -/
theorem quiet_same2 {P : Program} {f : FuncId} {args : Array Value} {w : World} {d n : Nat} {v : Value}
    (h : Calls P f args (w.drewN (d + n)) fun e w' => e = .returned v ∧ w' = w.drewN (d + n)) : Calls P f args (w.drewN (d + n)) fun e w'' => e = .returned v ∧ ∃ m, w'' = w.drewN (d + m) :=
  h.mono fun _ _ ⟨he, hm⟩ => ⟨he, n, hm⟩

/-- Euclid's answer for two moduli, under a name. -/
def BezFact (m n G s t : Int) : Prop := (Int.gcd m n : Int) = G ∧ m * s + n * t = G
theorem bezG (m n : Int) (w : World) (h1 : 1 ≤ m) (h2 : m ≤ 1000) (k1 : 1 ≤ n) (k2 : n ≤ 1000) :
    Calls Try.prog 51 #[.int .i64 m, .int .i64 n] w fun e w' => ∃ G s t : Int, e = .returned (.tuple #[.int .i64 G, .int .i64 s, .int .i64 t]) ∧ Hid (BezFact m n G s t) ∧ 1 ≤ G ∧ G ≤ 1000 ∧ -1000 ≤ s ∧ s ≤ 1000 ∧ ∃ k, w' = w.drewN k :=
  (bez 1000 m n w (by omega) (by omega) (by omega) (by omega) (by omega)).mono fun e w' ⟨v, he, ⟨x, y, hv, hb, _, hx⟩, hw⟩ => by
    have ⟨g1, g2⟩ := gcd_pos' m n h1
    have ⟨x0, x1, _⟩ := hx (by omega)
    exact ⟨_, x, y, by rw [he, hv], ⟨rfl, hb⟩, g1, by omega, by omega, by omega, hw⟩

theorem tmod_zero (x g : Int) (hg : 1 ≤ g) : x.tmod g = 0 ↔ x % g = 0 := by
  rw [← Int.dvd_iff_tmod_eq_zero, Int.dvd_iff_emod_eq_zero]

theorem tdiv_exact (x g : Int) (hg : 1 ≤ g) (h : x % g = 0) : x = g * x.tdiv g := by
  have := Int.mul_tdiv_add_tmod x g
  rw [(tmod_zero x g hg).2 h] at this
  omega

theorem tdiv_bd (x g : Int) (hg : 1 ≤ g) (h : x % g = 0) (x0 : -1000 ≤ x) (x1 : x ≤ 1000) : -1000 ≤ x.tdiv g ∧ x.tdiv g ≤ 1000 := by
  have e := tdiv_exact x g hg h
  generalize x.tdiv g = q at *
  by_cases q0 : 0 ≤ q
  · have : 1 * q ≤ g * q := Int.mul_le_mul_of_nonneg_right hg q0
    omega
  · have : g * q ≤ 1 * q := Int.mul_le_mul_of_nonpos_right hg (by omega)
    omega

theorem prod_bd (q s : Int) (q0 : -1000 ≤ q) (q1 : q ≤ 1000) (s0 : -1000 ≤ s) (s1 : s ≤ 1000) : -1000000 ≤ q * s ∧ q * s ≤ 1000000 := by
  have h : (q * s).natAbs ≤ 1000 * 1000 := by
    rw [Int.natAbs_mul]; exact Nat.mul_le_mul (by omega) (by omega)
  omega

theorem reduce' (x m : Int) (w : World) (hm : 1 ≤ m) (hm' : m ≤ 1000000) (h0 : -1000000000 ≤ x) (h1 : x ≤ 1000000000) :
    Calls Try.prog 57 #[.int .i64 x, .int .i64 m] w fun e w' => e = .returned (.int .i64 (x % m)) ∧ w' = w :=
  (reduce x m w hm hm' h0 h1).mono fun e w' ⟨h, k⟩ => ⟨h, k.symm⟩

theorem ch_end (a m b n G s t q N : Int) (ha : IsRes a m) (hb : IsRes b n) (F : BezFact m n G s t) (hq : (b - a).tdiv G = q) (hz : (b - a) % G = 0) (hN : n / G = N) :
    chVal a m b n (wrap64 (a + wrap64 (m * (q * s % N)))) (wrap64 (m / G * n)) 0 := by
  obtain ⟨hG, hB⟩ := F
  have ⟨g1, g2⟩ := gcd_pos' m n ha.1
  have e := tdiv_exact (b - a) G (by omega) hz
  subst hG
  have S := ch_made a m b n s t q ha hb hB (by rw [← hq]; exact e)
  rw [hN] at S
  have ⟨b1, b2, b3, b4⟩ := all_bd m n ha.1 ha.2.1 hb.1 hb.2.1
  obtain ⟨M, N', e1, e2, e3, e4, M0, M1, N0, N1⟩ := div_gcd m n ha.1 hb.1
  have p0 := Int.emod_nonneg (q * s) (show N ≠ 0 by omega)
  have u0 : 0 ≤ m * (q * s % N) := Int.mul_nonneg (by have := ha.1; omega) p0
  have := S.2.1
  have := ha.2.2.1
  rw [IntWalk.wrap64_in (m * (q * s % N)) (by omega), IntWalk.wrap64_in (a + m * (q * s % N)) (by omega), IntWalk.wrap64_in (m / (Int.gcd m n : Int) * n) (by omega)]
  exact .inr (.inl ⟨⟨ha, hb⟩, S, rfl⟩)

theorem ichin (a m b n : Int) (w : World) :
    Calls Try.prog 42 #[.int .i64 a, .int .i64 m, .int .i64 b, .int .i64 n] w fun r w' => ∃ x all c : Int, r = .returned (.tuple #[.int .i64 x, .int .i64 all, .int .i64 c]) ∧ chVal a m b n x all c ∧ ∃ n, w' = w.drewN n := by
  by_cases h : IsRes a m
  · by_cases k : IsRes b n
    · have H := Lib.hid h
      have K := Lib.hid k
      obtain ⟨h1, h2, h3, h4⟩ := h
      obtain ⟨k1, k2, k3, k4⟩ := k
      go_enter Try.func42, Try.ntmps42
      go_wp2_with (first | (go_at_call 55; (with_reducible refine (ires_yes a m _ H.out).mono ?_); rintro e w' ⟨rfl, rfl⟩) | (go_at_call 55; (with_reducible refine (ires_yes b n _ K.out).mono ?_); rintro e w' ⟨rfl, rfl⟩))
      refine (bezG m n _ h1 h2 k1 k2).mono ?_
      rintro e w' ⟨G, s, t, rfl, F, g0, g1, s0, s1, d, rfl⟩
      have z1 : ¬ G = 0 := by omega
      by_cases hz : (b - a) % G = 0
      · have hT : ((b - a).tmod G != 0) = false := by simpa using (tmod_zero (b - a) G g0).2 hz
        have ⟨q0, q1⟩ := tdiv_bd (b - a) G g0 hz (by omega) (by omega)
        obtain ⟨q, hq⟩ : ∃ q : Int, (b - a).tdiv G = q := ⟨_, rfl⟩
        obtain ⟨N, hN⟩ : ∃ N : Int, n / G = N := ⟨_, rfl⟩
        rw [hq] at q0 q1
        have N0 : 1 ≤ N ∧ N ≤ 1000 := by
          obtain ⟨M, N', e1, e2, e3, e4, M0, M1, N0, N1⟩ := div_gcd m n h1 k1
          rw [F.out.1] at e4
          omega
        obtain ⟨N0, N1⟩ := N0
        have ⟨p0, p1⟩ := prod_bd q s q0 q1 s0 s1
        have z2 : ¬ N = 0 := by omega
        have V := Lib.hid (ch_end a m b n G s t q N H.out K.out F.out hq hz hN)
        have w1 : IntKind.i64.wrap (b - a) = b - a := IntWalk.i64_in _ (by omega)
        have w2 : IntKind.i64.wrap (q * s) = q * s := IntWalk.i64_in _ (by omega)
        have w3 : IntKind.i64.wrap q = q := IntWalk.i64_in _ (by omega)
        have w4 : n.tdiv G = N := by rw [Int.tdiv_eq_ediv_of_nonneg (by omega)]; exact hN
        have w5 : IntKind.i64.wrap N = N := IntWalk.i64_in _ (by omega)
        clear hz
        go_wp2
        go_quiet ((go_at_call 57; exact quiet_same2 (reduce' (q * s) N _ N0 (by omega) (by omega) (by omega))))
        go_wp2
        clear w1 w2 w3 w4 w5 hq hN hT
        go_quiet (fail)
        go_wp2
        go_ret3
        exact ⟨_, _, _, rfl, V.out, _, by rw [World.drewN_drewN, World.drewN_drewN]⟩
      · have hT : ((b - a).tmod G != 0) = true := by simp; rw [tmod_zero (b - a) G g0]; exact hz
        have V := Lib.hid (show chVal a m b n 0 0 3 from .inr (.inr ⟨⟨H.out, K.out⟩, by rw [F.out.1]; exact hz, rfl, rfl, rfl⟩))
        clear hz
        go_wp2
        go_ret3
        exact ⟨_, _, _, rfl, V.out, _, rfl⟩
    · have V := Lib.hid (show chVal a m b n _ _ _ from .inl ⟨fun h => k h.2, rfl, rfl, rfl⟩)
      have H := Lib.hid h
      have K := Lib.hid k
      clear h k
      go_enter Try.func42, Try.ntmps42
      go_wp2_with (first | (go_at_call 55; (with_reducible refine (ires_yes a m _ H.out).mono ?_); rintro e w' ⟨rfl, rfl⟩) | (go_at_call 55; (with_reducible refine (ires_no b n _ K.out).mono ?_); rintro e w' ⟨rfl, rfl⟩))
      go_ret3
      exact ⟨_, _, _, rfl, V.out, 0, rfl⟩
  · have V := Lib.hid (show chVal a m b n _ _ _ from .inl ⟨fun k => h k.1, rfl, rfl, rfl⟩)
    have H := Lib.hid h
    clear h
    go_enter Try.func42, Try.ntmps42
    go_wp2_with (go_at_call 55; (with_reducible refine (ires_no _ _ _ H.out).mono ?_); rintro e w' ⟨rfl, rfl⟩)
    go_ret3
    exact ⟨_, _, _, rfl, V.out, 0, rfl⟩

theorem law_FnExactSolveChinese (a m b n : Int) (w : World) (_ : (Lit.int .i64 a).wf = true) (_ : (Lit.int .i64 m).wf = true) (_ : (Lit.int .i64 b).wf = true) (_ : (Lit.int .i64 n).wf = true) :
    Calls Try.prog 13 #[.int .i64 a, .int .i64 m, .int .i64 b, .int .i64 n] w fun r w' => r = .returned (.bool true) ∧ Below w.heap.size w w' := by
  go_enter Try.func13, Try.ntmps13
  go_wp2_with (go_at_call 41; refine (schin a m b n _).mono ?_; rintro r w' ⟨p, x, c, rfl, hv, rfl⟩; have HV := Lib.hid hv; clear hv)
  refine (ichin a m b n _).mono ?_
  rintro r w' ⟨p', x', c', rfl, hv', n', rfl⟩
  obtain ⟨rfl, rfl, rfl⟩ := chVal_eq HV.out hv'
  clear HV hv'
  go_wp2
  go_ret
  exact ⟨rfl, below_drewN (Below.refl _ _) _⟩
end Go.Proofs.Ytninajgnmogmeaa
