/- The law of residues: the walk. -/
import Derived.Test.YtninajgnmogmeaaResid
namespace Go.Proofs.Ytninajgnmogmeaa
open Go.RowKit
set_option linter.unusedVariables false

set_option maxHeartbeats 6400000 in
set_option maxRecDepth 100000 in
theorem law_FnResidues (a : Option Addr) (len cap : Nat) (zs : List Int) (b : Option Addr) (len' cap' : Nat) (zs' : List Int) (w : World) (h : IsRow .u8 w a len cap zs) (h' : IsRow .u8 w b len' cap' zs') :
    Calls Try.prog 15 #[.slice a len cap, .slice b len' cap'] w fun r w' => r = .returned (.bool true) ∧ Below w.heap.size w w' := by
  by_cases hbig : 1048576 < len
  · have hb : (1048576 : Int) < (len : Int) := by omega
    clear h h'
    go_enter Try.func15, Try.ntmps15
    go_wp2_with (go_at_call 43; go_in)
    go_ret
    exact ⟨rfl, Below.refl _ _⟩
  have hb : ¬ (1048576 : Int) < (len : Int) := by omega
  by_cases hbig' : 1048576 < len'
  · have hb' : (1048576 : Int) < (len' : Int) := by omega
    clear h h'
    go_enter Try.func15, Try.ntmps15
    go_wp2_with (go_at_call 43; go_in)
    go_ret
    exact ⟨rfl, Below.refl _ _⟩
  have hb' : ¬ (1048576 : Int) < (len' : Int) := by omega
  have H := Lib.hid h
  have R := Lib.hid (row_bytes h')
  have hl : len ≤ 1048576 := by omega
  have hl' : len' ≤ 1048576 := by omega
  clear h h' hbig hbig'
  go_enter Try.func15, Try.ntmps15
  go_wp2_with (go_at_call 43; go_in)
  refine (drawInverse _ a len cap zs H.out hl).mono ?_
  rintro e w1 ⟨x, m, rfl, ⟨⟨x0, x1⟩, ⟨m0, m1⟩⟩, b1⟩
  have B1 := Lib.hid b1
  clear b1
  go_wp2_with fail
  refine (iinv x m _).mono ?_
  rintro e w2 ⟨v, c, rfl, hv, d1, rfl⟩
  have HV := Lib.hid hv
  clear hv
  go_wp2_with fail
  refine (iord x m _).mono ?_
  rintro e w3 ⟨o, c', rfl, ho, d2, rfl⟩
  have HO := Lib.hid ho
  clear ho
  by_cases hr : IsRes x m
  · have HR := Lib.hid hr
    obtain ⟨r1, r2, r3, r4⟩ := hr
    have KP := Lib.hid (fun e (e0 : 0 ≤ e) (e1 : e ≤ 1000000) W => ipw x e m HR.out e0 e1 W)
    have z1 : ¬ m = 0 := by omega
    by_cases hg : Int.gcd x m = 1
    · obtain ⟨hx, hc0, v0, v1⟩ : x * v % m = 1 % m ∧ c = 0 ∧ 0 ≤ v ∧ v < m := by
        rcases HV.out with ⟨h, _⟩ | ⟨_, _, h1, h2, h3, h4⟩ | ⟨_, h, _⟩
        · exact absurd HR.out h
        · exact ⟨h3, h4, h1, h2⟩
        · exact absurd hg h
      obtain ⟨hord, hc1⟩ : IsOrd x m o ∧ c' = 0 := by
        rcases HO.out with ⟨h, _⟩ | ⟨_, _, h1, h2⟩ | ⟨_, h, _⟩
        · exact absurd HR.out h
        · exact ⟨h1, h2⟩
        · exact absurd hg h
      subst hc0 hc1
      have KG := Lib.hid (fun W => (igcd x m W).mono fun e w' (hh : e = .returned (.int .i64 (gcdOf x m)) ∧ ∃ n, w' = W.drewN n) => (show e = .returned (.int .i64 1) ∧ ∃ n, w' = W.drewN n from ⟨by rw [hh.1, gcdOf_in (show GcdIn x m by unfold GcdIn; omega), hg]; rfl, hh.2⟩))
      have o1 := hord.1
      have o2 := hord.2.1
      have hy : pwf x m o = 1 % m := hord.2.2.1
      have HX := Lib.hid hord.2.2.1
      have t0 : (x * v % m == 1 % m) = true := by simpa using hx
      have t2 : (pwf x m o == 1 % m) = true := by simpa using hy
      have ⟨u0, u1⟩ := mul_small x v m r3 r4 v0 v1 r2
      clear hg hord hy hx HV HO
      go_wp2_with (go_at_call 19; refine (KG.out _).mono ?_; rintro e w' ⟨rfl, d3, rfl⟩)
      refine (at_any _ w.heap.size b len' cap' (R.out.below (below_drewN B1.out _)) hl' 0 90 (by omega) (by omega) (by omega)).mono ?_
      rintro e w4 ⟨i, rfl, ⟨i0, i1⟩, rfl⟩
      go_wp2_with fail
      refine (at_any _ w.heap.size b len' cap' (R.out.below (below_drewN B1.out _)) hl' 1 90 (by omega) (by omega) (by omega)).mono ?_
      rintro e w4 ⟨k, rfl, ⟨k0, k1⟩, rfl⟩
      go_wp2_with fail
      refine (KP.out i i0 (by omega) _).mono ?_
      rintro e w4 ⟨rfl, b4⟩
      have B4 := Lib.hid ((below_drewN B1.out _).trans (b4.mono (by have := B1.out.size; simpa using this)))
      clear b4
      go_wp2_with fail
      refine (KP.out k k0 (by omega) _).mono ?_
      rintro e w5 ⟨rfl, b5⟩
      have B5 := Lib.hid (B4.out.trans (b5.mono B4.out.size))
      clear b5
      go_wp2_with fail
      refine (KP.out (i + k) (by omega) (by omega) _).mono ?_
      rintro e w6 ⟨rfl, b6⟩
      have B6 := Lib.hid (B5.out.trans (b6.mono B5.out.size))
      clear b6
      have ⟨p0, p1⟩ := pwf_rng x m i r1
      have ⟨q0, q1⟩ := pwf_rng x m k r1
      have ⟨y0, y1⟩ := mul_small (pwf x m i) (pwf x m k) m p0 p1 q0 q1 r2
      have t1 : (pwf x m i * pwf x m k % m != pwf x m (i + k)) = false := by rw [pwf_add x m i k i0 k0]; simp
      have t3 : (pwf x m (i % o) == pwf x m i) = true := by rw [pwf_mod x m i o i0 o1 HX.out]; simp
      have z2 : ¬ o = 0 := by omega
      have s0 := Int.emod_nonneg i z2
      have s1 := Int.emod_lt_of_pos i (show 0 < o by omega)
      have t4 : ¬ o < 1 := by omega
      go_wp2_with fail
      refine (KP.out o (by omega) (by omega) _).mono ?_
      rintro e w7 ⟨rfl, b7⟩
      have B7 := Lib.hid (B6.out.trans (b7.mono B6.out.size))
      clear b7
      go_wp2_with fail
      refine (KP.out (i % o) s0 (by omega) _).mono ?_
      rintro e w8 ⟨rfl, b8⟩
      have B8 := Lib.hid (B7.out.trans (b8.mono B7.out.size))
      clear b8
      go_wp2
      go_quiet (fail)
      go_wp2
      go_ret
      exact ⟨rfl, below_drewN B8.out _⟩
    · obtain ⟨hv0, hc0⟩ : v = 0 ∧ c = 3 := by
        rcases HV.out with ⟨h, _⟩ | ⟨_, h, _⟩ | ⟨_, h, h1, h2⟩
        · exact absurd HR.out h
        · exact absurd h hg
        · exact ⟨h1, h2⟩
      obtain ⟨ho0, hc1⟩ : o = 0 ∧ c' = 3 := by
        rcases HO.out with ⟨h, _⟩ | ⟨_, h, _⟩ | ⟨_, h, h1, h2⟩
        · exact absurd HR.out h
        · exact absurd h hg
        · exact ⟨h1, h2⟩
      subst hv0 hc0 ho0 hc1
      obtain ⟨G, hG⟩ : ∃ G : Int, (Int.gcd x m : Int) = G := ⟨_, rfl⟩
      have KG := Lib.hid (fun W => (igcd x m W).mono fun e w' (hh : e = .returned (.int .i64 (gcdOf x m)) ∧ ∃ n, w' = W.drewN n) => (show e = .returned (.int .i64 G) ∧ ∃ n, w' = W.drewN n from ⟨by rw [hh.1, gcdOf_in (show GcdIn x m by unfold GcdIn; omega), hG], hh.2⟩))
      have tG : (G == 1) = false := by rw [← hG]; simp; omega
      clear hg hG HV HO
      go_wp2_with (go_at_call 19; refine (KG.out _).mono ?_; rintro e w' ⟨rfl, d3, rfl⟩)
      refine (at_any _ w.heap.size b len' cap' (R.out.below (below_drewN B1.out _)) hl' 0 90 (by omega) (by omega) (by omega)).mono ?_
      rintro e w4 ⟨i, rfl, ⟨i0, i1⟩, rfl⟩
      go_wp2_with fail
      refine (at_any _ w.heap.size b len' cap' (R.out.below (below_drewN B1.out _)) hl' 1 90 (by omega) (by omega) (by omega)).mono ?_
      rintro e w4 ⟨k, rfl, ⟨k0, k1⟩, rfl⟩
      go_wp2_with fail
      refine (KP.out i i0 (by omega) _).mono ?_
      rintro e w4 ⟨rfl, b4⟩
      have B4 := Lib.hid ((below_drewN B1.out _).trans (b4.mono (by have := B1.out.size; simpa using this)))
      clear b4
      go_wp2_with fail
      refine (KP.out k k0 (by omega) _).mono ?_
      rintro e w5 ⟨rfl, b5⟩
      have B5 := Lib.hid (B4.out.trans (b5.mono B4.out.size))
      clear b5
      go_wp2_with fail
      refine (KP.out (i + k) (by omega) (by omega) _).mono ?_
      rintro e w6 ⟨rfl, b6⟩
      have B6 := Lib.hid (B5.out.trans (b6.mono B5.out.size))
      clear b6
      have ⟨p0, p1⟩ := pwf_rng x m i r1
      have ⟨q0, q1⟩ := pwf_rng x m k r1
      have ⟨y0, y1⟩ := mul_small (pwf x m i) (pwf x m k) m p0 p1 q0 q1 r2
      have t1 : (pwf x m i * pwf x m k % m != pwf x m (i + k)) = false := by rw [pwf_add x m i k i0 k0]; simp
      go_wp2
      go_ret
      exact ⟨rfl, B6.out⟩
  · obtain rfl : c = 2 := by
      rcases HV.out with ⟨_, _, h⟩ | ⟨h, _⟩ | ⟨h, _⟩
      · exact h
      · exact absurd h hr
      · exact absurd h hr
    obtain rfl : c' = 2 := by
      rcases HO.out with ⟨_, _, h⟩ | ⟨h, _⟩ | ⟨h, _⟩
      · exact h
      · exact absurd h hr
      · exact absurd h hr
    have hr' : m < 1 ∨ (¬ m < 1 ∧ 1000 < m) ∨ (¬ m < 1 ∧ ¬ 1000 < m ∧ x < 0) ∨ (¬ m < 1 ∧ ¬ 1000 < m ∧ ¬ x < 0 ∧ m ≤ x) := by
      unfold IsRes at hr; omega
    clear hr HV HO
    rcases hr' with h1 | ⟨h1, h2⟩ | ⟨h1, h2, h3⟩ | ⟨h1, h2, h3, h4⟩
    all_goals
      go_wp2
      go_ret
      exact ⟨rfl, below_drewN B1.out _⟩
end Go.Proofs.Ytninajgnmogmeaa
