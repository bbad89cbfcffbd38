/- Powers, the split of a prime power, irreducible polynomials, by the model. -/
import Derived.Test.YtmlcdbjibngnkaaSd
import Derived.Test.YtmlcdbjibngnkaaFi
import Derived.Test.YtmlcdbjibngnkaaFac
namespace Go.Proofs.Ytmlcdbjibngnkaa
open Go.RowKit
set_option linter.unusedVariables false

/-- A power of a small number. -/
theorem spower (p k : Nat) (w : World) (hp : p ≤ 64) (hk : k ≤ 6) :
    Calls Try.prog 88 #[.int .i64 p, .int .i64 k] w fun e w' => e = .returned (.int .i64 ((p ^ k : Nat) : Int)) ∧ w' = w := by
  go_enter Try.func88, Try.ntmps88
  go_wp2
  go_loop [1, 5] (fun u s => ∃ j q : Nat, j ≤ k ∧ u = .int .i64 ((k : Int) - (j : Int)) ∧ s = .int .i64 q ∧ Hid (p ^ j = q)) (fun u _ => (intOf u).toNat)
  case atStart => exact ⟨0, 1, by omega, by simp, rfl, rfl⟩
  case round =>
    obtain ⟨j, q, hj, rfl, rfl, he⟩ := hrel
    by_cases hlt : j < k
    · have g1 : (0 : Int) < (k : Int) - (j : Int) := by omega
      have hq : q ≤ 64 ^ 6 := by
        rw [← he.out]
        exact Nat.le_trans (Nat.pow_le_pow_left hp j) (Nat.pow_le_pow_right (by omega) (by omega))
      obtain ⟨r, hr⟩ : ∃ r : Nat, q * p = r := ⟨_, rfl⟩
      have er : (q : Int) * (p : Int) = (r : Int) := by rw [← hr]; simp
      have hr' : r ≤ 64 ^ 6 * 64 := by rw [← hr]; exact Nat.mul_le_mul hq hp
      have ER : Hid (p ^ (j + 1) = r) := by unfold Hid; rw [Nat.pow_succ, he.out, hr]
      clear hr
      go_wp2
      go_round
      case rel => exact ⟨j + 1, r, by omega, by go_num, rfl, ER⟩
      case measure => simp only [intOf]; omega
    · obtain rfl : j = k := by omega
      have g1 : ¬ (0 : Int) < (j : Int) - (j : Int) := by omega
      have E := Lib.hid (show (q : Int) = ((p ^ j : Nat) : Int) by rw [he.out])
      go_wp2
      go_ret
      exact ⟨ret_i _ _ E.out, rfl⟩

theorem pr_gcd {q r : Nat} (hq : Pr q) (h : Nat.gcd q r ≠ 1) : q ∣ r := by
  have h1 : Nat.gcd q r ∣ q := Nat.gcd_dvd_left q r
  have h0 : Nat.gcd q r ≠ 0 := by
    intro e
    have := Nat.eq_zero_of_gcd_eq_zero_left e
    have := hq.1
    omega
  have hle : Nat.gcd q r ≤ q := Nat.le_of_dvd (by have := hq.1; omega) h1
  by_cases e : Nat.gcd q r = q
  · rw [← e]; exact Nat.gcd_dvd_right q r
  · exact absurd h1 (hq.2.2 _ (by omega) (by omega))
theorem pr_pow {q r : Nat} (hq : Pr q) : ∀ k, q ∣ r ^ k → q ∣ r
  | 0, h => by
    have := Nat.le_of_dvd (by simp) h
    have := hq.1
    simp at *
    omega
  | k + 1, h => by
    by_cases hg : Nat.gcd q r = 1
    · rw [Nat.pow_succ] at h
      exact pr_pow hq k (Nat.Coprime.dvd_of_dvd_mul_right hg h)
    · exact pr_gcd hq hg
theorem min_pow {r : Nat} (hr : Pr r) (k : Nat) : IsMin (r ^ (k + 1)) r := by
  refine ⟨hr.1, ⟨r ^ k, by rw [Nat.pow_succ, Nat.mul_comm]⟩, fun e e2 e3 hd => ?_⟩
  obtain ⟨q, hq, hqe, hle⟩ := pr_divisor e e2
  have := pr_pow hq _ (Nat.dvd_trans hqe hd)
  exact hr.2.2 q hq.1 (by omega) this

/-- What the split of a number is. -/
def SpOut (q P K : Nat) : Prop := (P = 0 ∧ K = 0 ∧ ∀ r k, Pr r → q ≠ r ^ (k + 1)) ∨ (Pr P ∧ 1 ≤ K ∧ q = P ^ K)
theorem min_pr {q p : Nat} (h : IsMin q p) : Pr p := ⟨h.1, Nat.dvd_refl _, fun e e2 e3 hd => h.2.2 e e2 e3 (Nat.dvd_trans hd h.2.1)⟩
theorem sp_no {q p n j : Nat} (hm : IsMin q p) (he : n * p ^ j = q) (hn : 1 < n) (hd : ¬ p ∣ n) : ∀ r k, Pr r → q ≠ r ^ (k + 1) := by
  intro r k hr e
  have h1 := min_pow hr k
  rw [← e] at h1
  obtain rfl := hm.uniq h1
  obtain ⟨s, hs, hsn, -⟩ := pr_divisor n (by omega)
  have : s ∣ p ^ (k + 1) := by rw [← e, ← he]; exact Nat.dvd_trans hsn ⟨_, rfl⟩
  have h2 := pr_pow hs _ this
  have h3 : s = p := by
    have a1 := Nat.le_of_dvd (by have := hr.1; omega) h2
    by_cases e : s = p
    · exact e
    · exact absurd h2 (hr.2.2 s hs.1 (by omega))
  subst h3
  exact hd hsn

theorem ssplit (q : Nat) (w : World) (h1 : 2 ≤ q) (h2 : q ≤ 64) :
    Calls Try.prog 69 #[.int .i64 q] w fun e w' => ∃ P K : Nat, e = .returned (.tuple #[.int .i64 P, .int .i64 K]) ∧ SpOut q P K ∧ w' = w := by
  have a1 : (2 : Int) ≤ (q : Int) := by omega
  have a2 : (q : Int) ≤ 64 := by omega
  go_enter Try.func69, Try.ntmps69
  go_wp2_with (go_at_call 90; refine (in_yes _ _ _ _ a1 a2).mono ?_; rintro e w' ⟨rfl, rfl⟩)
  go_loop [4] (fun u => ∃ d : Nat, 2 ≤ d ∧ d ≤ q ∧ u = .int .i64 d ∧ Hid (NoDiv q d)) (fun u => q - (intOf u).toNat)
  case atStart => exact ⟨2, by omega, by omega, rfl, fun e e1 e2 => by omega⟩
  case round =>
    obtain ⟨d, d2, d3, rfl, hr⟩ := hrel
    have z1 : ¬ (d : Int) = 0 := by omega
    by_cases hd : d ∣ q
    · have hT : ((q : Int) % (d : Int) != 0) = false := by
        have : (q : Int) % (d : Int) = 0 := by rw [← Int.dvd_iff_emod_eq_zero]; exact Int.ofNat_dvd.2 hd
        simp [this]
      have M := Lib.hid (hr.out.min d2 hd)
      clear hd
      go_wp2
      go_loop [5, 6] (fun k n => ∃ j m : Nat, 1 ≤ m ∧ m ≤ q ∧ j + m ≤ q ∧ k = .int .i64 j ∧ n = .int .i64 m ∧ Hid (m * d ^ j = q)) (fun _ n => (intOf n).toNat)
      case atStart => exact ⟨0, q, by omega, by omega, by omega, rfl, rfl, by unfold Hid; simp⟩
      case round =>
        obtain ⟨j, m, m1, m2, jm, rfl, rfl, he⟩ := hrel
        by_cases hm : 1 < m
        · by_cases hdm : d ∣ m
          · have hT2 : ((m : Int) % (d : Int) != 0) = false := by
              have : (m : Int) % (d : Int) = 0 := by rw [← Int.dvd_iff_emod_eq_zero]; exact Int.ofNat_dvd.2 hdm
              simp [this]
            obtain ⟨b1, b2, b3⟩ := div_pos' m1 d2 hdm
            obtain ⟨m', hm'⟩ : ∃ m', m / d = m' := ⟨_, rfl⟩
            have em : (m : Int) / (d : Int) = (m' : Int) := by rw [← hm']; rfl
            rw [hm'] at b1 b2 b3
            have E2 : Hid (m' * d ^ (j + 1) = q) := by
              unfold Hid
              rw [← he.out, b3, Nat.pow_succ, ← Nat.mul_assoc, Nat.mul_right_comm, Nat.mul_comm d m']
            have EM := Lib.hid em
            clear b3 hm' hdm em
            go_wp2
            go_round
            case rel => exact ⟨j + 1, m', b1, by omega, by omega, by go_num, by rw [EM.out, w64' (by omega)], E2⟩
            case measure => rw [EM.out, w64' (by omega)]; simp only [intOf]; omega
          · have hT2 : ((m : Int) % (d : Int) != 0) = true := by
              have : ¬ (d : Int) ∣ (m : Int) := fun h => hdm (Int.ofNat_dvd.1 h)
              rw [Int.dvd_iff_emod_eq_zero] at this
              simpa using this
            have V : Hid (SpOut q 0 0) := .inl ⟨rfl, rfl, sp_no M.out he.out hm hdm⟩
            clear hdm
            go_wp2
            refine bodyPost_ret (v := .tuple #[.int .i64 0, .int .i64 0]) (by simp [results, Try.results69, go_sem]) rfl ⟨0, 0, rfl, V.out, rfl⟩
        · obtain rfl : m = 1 := by omega
          have V : Hid (SpOut q d j) := by
            have e := he.out
            rw [Nat.one_mul] at e
            refine .inr ⟨min_pr M.out, ?_, e.symm⟩
            by_cases h0 : j = 0
            · subst h0; simp at e; omega
            · omega
          go_wp2
          refine bodyPost_ret (v := .tuple #[.int .i64 d, .int .i64 j]) (by simp [results, Try.results69, go_sem]) rfl ⟨d, j, rfl, V.out, rfl⟩
    · have hT : ((q : Int) % (d : Int) != 0) = true := by
        have : ¬ (d : Int) ∣ (q : Int) := fun h => hd (Int.ofNat_dvd.1 h)
        rw [Int.dvd_iff_emod_eq_zero] at this
        simpa using this
      have hdq : d ≠ q := fun e => hd (by rw [e]; exact Nat.dvd_refl _)
      have V := Lib.hid (hr.out.succ hd)
      clear hd
      go_wp2
      go_round
      case rel => exact ⟨d + 1, by omega, by omega, by go_num, V⟩
      case measure => simp only [intOf]; omega
theorem ssplit_no (q : Int) (w : World) (h : q < 2 ∨ 64 < q) :
    Calls Try.prog 69 #[.int .i64 q] w fun e w' => e = .returned (.tuple #[.int .i64 0, .int .i64 0]) ∧ w' = w := by
  have H := Lib.hid h
  clear h
  go_enter Try.func69, Try.ntmps69
  go_wp2_with (go_at_call 90; refine (in_no _ _ _ _ H.out).mono ?_; rintro e w' ⟨rfl, rfl⟩)
  refine bodyPost_ret (v := .tuple #[.int .i64 0, .int .i64 0]) (by simp [results, Try.results69, go_sem]) rfl ⟨rfl, rfl⟩

theorem vec_wt (p n d : Nat) : vec d (dg p n) ++ [1] = vec (d + 1) (wt p n d) := by
  rw [vec_succ]
  congr 1
  · exact vec_congr _ _ _ (fun i hi => by unfold wt; rw [if_neg (by omega)])
  · rw [wt_top]

set_option maxHeartbeats 1600000 in
/-- Whether a polynomial has no divisor, by the model. -/
theorem sirr (p deg : Nat) (f : Co) (v : Value) (w : World) (hv : IntsAt w v (vec (deg + 1) f)) (hp : 2 ≤ p) (hp' : p ≤ 64) (h1 : 1 ≤ deg) (h6 : deg ≤ 6) (hf : Rd p (deg + 1) f) (hq : p ^ deg ≤ 64) :
    Calls Try.prog 87 #[v, .int .i64 p] w fun e w' => e = .returned (.bool (irrB p deg f)) ∧ Below w.heap.size w w' := by
  have HP : Hid (∀ d, d ≤ deg → p ^ d ≤ 64) := fun d hd => Nat.le_trans (Nat.pow_le_pow_right (by omega) hd) hq
  have HI := Lib.hid (irrB_iff p deg f)
  have HV := Lib.hid hv
  have HF := Lib.hid hf
  obtain ⟨a, cap, rfl⟩ : ∃ a cap, v = .slice a (deg + 1) cap := by
    rcases hv.2 with ⟨h, _⟩ | ⟨g, off, cap, rfl, _⟩
    · have := vec_length (deg + 1) f; rw [h] at this; simp at this
    · exact ⟨_, cap, by rw [vec_length]⟩
  have HW := Lib.hid (fun (d : Nat) (W : World) (h : d ≤ 6) => (spower p d W hp' h).mono fun e w' (k : _ ∧ _) => (⟨k.1, k.2.symm⟩ : e = .returned (.int .i64 ((p ^ d : Nat) : Int)) ∧ W = w'))
  have HD := Lib.hid (fun (n d : Nat) (W : World) (h : n < 64) (h' : d ≤ 12) => sdigits n p d W hp hp' (by omega) h')
  have HR := Lib.hid (fun (n d : Nat) (u : Value) (W : World) (hw : Below w.heap.size w W) (hu : IntsAt W u (vec (d + 1) (wt p n d))) (h1 : 1 ≤ d) (h2 : d ≤ 6) => srest p d (deg + 1) f (wt p n d) (.slice a (deg + 1) cap) u W (hv.below hw (Nat.le_refl _)) hu hp hp' h1 h2 (by omega) (by omega) hf (wt_bd p n d hp))
  have HN := Lib.hid (fun (n d : Nat) (c : Co) (u : Value) (W : World) (hu : IntsAt W u (vec d c)) (hc : Rd p d c) (h : p ^ d ≤ 64) (h' : d ≤ 12) => snumber p d c u W hu hp hp' (fun i => ⟨(hc i).1, (hc i).2.1⟩) (by omega) h')
  clear hf hv hq
  go_enter Try.func87, Try.ntmps87
  go_wp2
  go_loopw [6] (fun i wr => ∃ d : Nat, 1 ≤ d ∧ d ≤ deg / 2 + 1 ∧ i = .int .i64 d ∧ Hid (∀ e, 1 ≤ e → e < d → ∀ n, n < p ^ e → rval p deg f e n ≠ 0) ∧ Hid (Below w.heap.size w wr)) (fun i _ => deg + 1 - (intOf i).toNat)
  case atStart => exact ⟨1, by omega, by omega, by simp, fun e e1 e2 => by omega, Below.refl _ _⟩
  case round =>
    obtain ⟨d, d1, d2, rfl, hn, hB⟩ := hrel
    by_cases hlt : 2 * d ≤ deg
    · have g1 : 2 * (d : Int) ≤ (deg : Int) := by omega
      have hd6 : d ≤ 6 := by omega
      have hd12 : d ≤ 12 := by omega
      obtain ⟨q, hq⟩ : ∃ q, p ^ d = q := ⟨_, rfl⟩
      have hq64 := HP.out d (by omega)
      rw [hq] at hq64
      have HQ := Lib.hid hq
      have HW' := Lib.hid (fun W : World => HW.out d W hd6)
      rw [hq] at HW'
      clear hq
      obtain ⟨wq, rfl⟩ : ∃ wq : World, wq = wr := ⟨_, rfl⟩
      go_wp2
      go_loopw [7] (fun i wr => ∃ n : Nat, n ≤ q ∧ i = .int .i64 n ∧ Hid (∀ m, m < n → rval p deg f d m ≠ 0) ∧ Hid (Below w.heap.size w wr)) (fun i _ => q - (intOf i).toNat)
      case atStart => exact ⟨0, by omega, rfl, fun m h => by omega, hB⟩
      case round =>
        obtain ⟨n, hnq, rfl, hm, hB2⟩ := hrel
        by_cases hln : n < q
        · have n1 : (n : Int) < (q : Int) := by omega
          have n0 : (0 : Int) ≤ (n : Int) := by omega
          have hn64 : n < 64 := by omega
          obtain ⟨x, hx⟩ : ∃ x, rval p deg f d n = x := ⟨_, rfl⟩
          have HX := Lib.hid hx
          have hlen := vec_length d (dg p n)
          clear hx
          have hs0 : w.heap.size ≤ wr.heap.size := hB2.out.size
          go_upto_region 9 with (first | (go_at_call 88; refine (HW'.out _).mono ?_; rintro e w1 ⟨rfl, rfl⟩) | (go_at_call 86; refine (HD.out n d _ hn64 hd12).mono ?_; rintro e w2 ⟨v2, rfl, i2, b2⟩; have I2 := Lib.hid i2; have B2 := Lib.hid b2; have hs2 := b2.size; clear i2 b2) | (at_builtin; refine wpList_push w2 (by rfl) _ _ (by rfl) wr.heap.size _ _ (by rfl) I2.out 1 _ (by rfl) (by omega) hs2 ?_; intro v3 w3 hi3 hb3; have I3 := Lib.hid hi3; have B3 := Lib.hid hb3; clear hi3 hb3))
          have C3 : Hid (Below w.heap.size w w3) := hB2.out.trans ((B2.out.trans B3.out).mono hs0)
          have J3 : Hid (IntsAt w3 v3 (vec (d + 1) (wt p n d))) := by have := I3.out.at; rw [vec_wt] at this; exact this
          clear I2 B2 I3 B3
          go_upto_region 10 with (go_at_call 99; refine (HR.out n d v3 _ C3.out J3.out d1 hd6).mono ?_; rintro e w4 ⟨v4, rfl, hi4, hb4⟩; have I4 := Lib.hid hi4; have B4 := Lib.hid hb4; clear hi4 hb4)
          have C4 : Hid (Below w.heap.size w w4) := C3.out.trans (B4.out.mono C3.out.size)
          have J4 : Hid (IntsAt w4 v4 (vec d (red p (wt p n d) d (deg + 1 - d) f))) := by have := I4.out.at; rw [show min (deg + 1) d = d by omega] at this; exact this
          have RD : Hid (Rd p d (red p (wt p n d) d (deg + 1 - d) f)) := red_rd (by omega) (wt_top p n d) _ _ (by rw [show d + (deg + 1 - d) = deg + 1 by omega]; exact HF.out)
          have hv0 : Hid (num p (red p (wt p n d) d (deg + 1 - d) f) d 0 = x) := HX.out
          have HN' := Lib.hid (HN.out n d _ v4 w4 J4.out RD.out (by rw [HQ.out]; exact hq64) hd12)
          rw [hv0.out] at HN'
          clear I4 B4 J4 C3 J3 RD hv0
          by_cases hx0 : x = 0
          · subst hx0
            have E := Lib.hid (show irrB p deg f = false by
              cases hb : irrB p deg f
              · rfl
              · exact absurd HX.out (HI.out.1 hb d d1 (by omega) n (by rw [HQ.out]; exact hln)))
            go_wp2_with (go_at_call 98; refine HN'.out.mono ?_; rintro e w5 ⟨rfl, rfl⟩)
            go_ret
            exact ⟨ret_b _ _ E.out.symm, C4.out⟩
          · have xT : (x == 0) = false := by simpa using hx0
            have M1 : Hid (∀ m, m < n + 1 → rval p deg f d m ≠ 0) := by
              intro m hmn
              by_cases e : m = n
              · subst e; rw [HX.out]; exact hx0
              · exact hm.out m (by omega)
            clear hx0
            go_wp2_with (go_at_call 98; refine HN'.out.mono ?_; rintro e w5 ⟨rfl, rfl⟩)
            go_roundw
            case rel => exact ⟨n + 1, by omega, by go_num, M1, C4⟩
            case measure => simp only [intOf]; omega
        · obtain rfl : n = q := by omega
          have N1 : Hid (∀ e, 1 ≤ e → e < d + 1 → ∀ m, m < p ^ e → rval p deg f e m ≠ 0) := by
            intro e e1 e2 m hmn
            by_cases h : e = d
            · subst h; exact hm.out m (by rw [← HQ.out]; exact hmn)
            · exact hn.out e e1 (by omega) m hmn
          have g3 : ¬ (n : Int) < (n : Int) := by omega
          go_wp2_with (go_at_call 88; refine (HW'.out _).mono ?_; rintro e w1 ⟨rfl, rfl⟩)
          go_roundw
          case rel => exact ⟨d + 1, by omega, by omega, by go_num, N1, hB2⟩
          case measure => simp only [intOf]; omega
    · have hd : d = deg / 2 + 1 := by omega
      have E := Lib.hid (show irrB p deg f = true from HI.out.2 fun e e1 e2 m hmn => hn.out e e1 (by omega) m hmn)
      have g2 : ¬ 2 * (d : Int) ≤ (deg : Int) := by omega
      go_wp2
      go_ret
      exact ⟨ret_b _ _ E.out.symm, hB.out⟩
end Go.Proofs.Ytmlcdbjibngnkaa
