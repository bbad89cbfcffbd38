/- OrderOfPermutation: the model. -/
import Derived.Test.YtcgmencdadinbaaSs
import Derived.Test.YtcgmencdadinbaaGcd
namespace Go.Proofs.Ytcgmencdadinbaa
open Go.RowKit
set_option linter.unusedVariables false

def ordL (cs : List (List Int)) : Nat := cs.foldl (fun o c => o * (c.length / Nat.gcd o c.length)) 1
theorem ordL_snoc (cs : List (List Int)) (c : List Int) : ordL (cs ++ [c]) = ordL cs * (c.length / Nat.gcd (ordL cs) c.length) := by simp [ordL]
theorem ord_same (o n : Nat) : o / Nat.gcd o n * n = o * (n / Nat.gcd o n) := by
  rw [Nat.div_mul_right_comm (Nat.gcd_dvd_left o n), Nat.mul_div_assoc _ (Nat.gcd_dvd_right o n)]
theorem cube_le : ∀ n : Nat, n ≤ 32 → n * n * n ≤ 3 ^ n := by decide
theorem ord_step {o n t : Nat} (h1 : 1 ≤ o) (h2 : o * o * o ≤ 3 ^ t) (n1 : 1 ≤ n) (n2 : n ≤ 32) : 1 ≤ o * (n / Nat.gcd o n) ∧ (o * (n / Nat.gcd o n)) * (o * (n / Nat.gcd o n)) * (o * (n / Nat.gcd o n)) ≤ 3 ^ (t + n) := by
  have gp : 0 < Nat.gcd o n := Nat.gcd_pos_of_pos_left _ h1
  have d1 : 1 ≤ n / Nat.gcd o n := Nat.div_pos (Nat.le_of_dvd (by omega) (Nat.gcd_dvd_right _ _)) gp
  have d2 : n / Nat.gcd o n ≤ n := Nat.div_le_self _ _
  have k := cube_le n n2
  generalize n / Nat.gcd o n = d at d1 d2 ⊢
  refine ⟨Nat.mul_pos h1 d1, ?_⟩
  have e : o * d * (o * d) * (o * d) = (o * o * o) * (d * d * d) := by
    simp only [Nat.mul_comm, Nat.mul_left_comm]
  rw [e, Nat.pow_add]
  exact Nat.mul_le_mul h2 (Nat.le_trans (Nat.mul_le_mul (Nat.mul_le_mul d2 d2) d2) k)
/-- The order of the first cycles: not 0, and small. -/
theorem ordL_fold : ∀ (cs : List (List Int)) (o t : Nat), 1 ≤ o → o * o * o ≤ 3 ^ t → (∀ c ∈ cs, 1 ≤ c.length ∧ c.length ≤ 32) →
    1 ≤ cs.foldl (fun o c => o * (c.length / Nat.gcd o c.length)) o ∧ cs.foldl (fun o c => o * (c.length / Nat.gcd o c.length)) o * cs.foldl (fun o c => o * (c.length / Nat.gcd o c.length)) o * cs.foldl (fun o c => o * (c.length / Nat.gcd o c.length)) o ≤ 3 ^ (t + tot cs)
  | [], o, t, h1, h2, _ => ⟨h1, h2⟩
  | c :: cs, o, t, h1, h2, h => by
    have hc := h c (List.mem_cons_self ..)
    obtain ⟨a1, a2⟩ := ord_step h1 h2 hc.1 hc.2
    have := ordL_fold cs _ _ a1 a2 (fun x hx => h x (List.mem_cons_of_mem _ hx))
    rw [List.foldl_cons, tot_cons, ← Nat.add_assoc]
    exact this
theorem ordL_ok {cs : List (List Int)} (h : ∀ c ∈ cs, 1 ≤ c.length ∧ c.length ≤ 32) (ht : tot cs ≤ 32) : 1 ≤ ordL cs ∧ ordL cs ≤ 1000000 := by
  obtain ⟨h1, h2⟩ := ordL_fold cs 1 0 (Nat.le_refl _) (by decide) h
  refine ⟨h1, Nat.le_of_not_lt fun hc => ?_⟩
  have h3 : 3 ^ (0 + tot cs) ≤ 3 ^ 32 := Nat.pow_le_pow_right (by decide) (by omega)
  have h4 := Nat.le_trans h2 h3
  have h5 : 1000000 * 1000000 * 1000000 ≤ ordL cs * ordL cs * ordL cs := Nat.mul_le_mul (Nat.mul_le_mul (Nat.le_of_lt hc) (Nat.le_of_lt hc)) (Nat.le_of_lt hc)
  have h6 : ordL cs * ordL cs * ordL cs ≤ 3 ^ 32 := h4
  have : (1000000 * 1000000 * 1000000 : Nat) ≤ 3 ^ 32 := Nat.le_trans h5 h6
  revert this; decide
theorem cst_ne (ps : List Int) : ∀ j, ∀ c ∈ (cst ps j).2, 1 ≤ c.length
  | 0, c, h => by cases h
  | j + 1, c, h => by
    by_cases e : (j : Int) ∈ (cst ps j).1
    · rw [cst_skip e] at h; exact cst_ne ps j c h
    · rw [(cst_go e).2] at h
      rcases List.mem_append.1 h with h | h
      · exact cst_ne ps j c h
      · rw [List.mem_singleton.1 h, walkC_go e, List.length_cons]; omega
theorem cyclesL_one {ps : List Int} (hp : pmB ps = true) : ∀ c ∈ cyclesL ps, 1 ≤ c.length ∧ c.length ≤ 32 := fun c hc => by
  have := tot_mem _ c hc
  have := (cyclesL_len (perm01 hp)).2
  have := (of_pmB hp).1
  exact ⟨cst_ne ps _ c hc, by omega⟩
/-- .. of any of the first. -/
theorem ordL_pre {ps : List Int} (hp : pmB ps = true) {cs : List (List Int)} (h : cs <+: cyclesL ps) : 1 ≤ ordL cs ∧ ordL cs ≤ 1000000 := by
  refine ordL_ok (fun c hc => cyclesL_one hp c (h.subset hc)) ?_
  obtain ⟨t, ht⟩ := h
  have := (cyclesL_len (perm01 hp)).2
  have := (of_pmB hp).1
  rw [← ht, tot_append] at *
  omega
noncomputable def OrderOfPermutation_0 (xs : List Int) : Int := if pmB xs = true then (ordL (cyclesL xs) : Nat) else 0
theorem Order_bad {xs : List Int} (h : pmB xs = false) : OrderOfPermutation_0 xs = 0 := by unfold OrderOfPermutation_0; rw [if_neg (by simp [h])]
theorem Order_ok {xs : List Int} (h : pmB xs = true) : OrderOfPermutation_0 xs = (ordL (cyclesL xs) : Nat) := by unfold OrderOfPermutation_0; rw [if_pos h]

set_option maxHeartbeats 2000000 in
theorem sOrderOfPermutation (xs : List Int) (hx : SmallL xs) (W : World) (v : Value) (hv : IntsC W v xs) :
    Calls Try.prog 42 #[v] W fun e w' => e = .returned (.int .i64 (OrderOfPermutation_0 xs)) ∧ Below W.heap.size W w' := by
  have HX := Lib.hid (sok W v xs hv)
  cases hp : pmB xs with
  | false =>
    have V := Lib.hid (Order_bad hp)
    rw [hp] at HX
    clear hp hv
    go_enter Try.func42, Try.ntmps42
    go_wp2_with fail
    refine HX.out.mono ?_
    rintro e w1 ⟨rfl, k, rfl⟩
    go_wp2
    go_ret
    exact ⟨by rw [V.out]; rfl, Go.below_drewN (Below.refl _ _) k⟩
  | true =>
    have V := Lib.hid (Order_ok hp)
    rw [hp] at HX
    have T := Lib.hid (fun k => sCycles (W.drewN k) v xs (hv.drewN k) hp)
    have TK : Hid (∀ j, j < (cyclesL xs).length → ordL ((cyclesL xs).take (j + 1)) = ordL ((cyclesL xs).take j) * (((cyclesL xs).getD j []).length / Nat.gcd (ordL ((cyclesL xs).take j)) ((cyclesL xs).getD j []).length)) := fun j hj => by rw [takeL_getD hj, ordL_snoc]
    have S1 : Hid (∀ j, 1 ≤ ordL ((cyclesL xs).take j) ∧ ordL ((cyclesL xs).take j) ≤ 1000000) := fun j => ordL_pre hp (List.take_prefix _ _)
    have TL : Hid (∀ j, j < (cyclesL xs).length → 1 ≤ ((cyclesL xs).getD j []).length ∧ ((cyclesL xs).getD j []).length ≤ 32) := fun j hj =>
      cyclesL_one hp _ (by rw [List.getD_eq_getElem?_getD, List.getElem?_eq_getElem hj]; exact List.getElem_mem hj)
    have TE : Hid ((cyclesL xs).take (cyclesL xs).length = cyclesL xs) := List.take_length
    have TZ : Hid (ordL ((cyclesL xs).take 0) = 1) := rfl
    have LN := cyclesL_len (perm01 hp)
    have l32 := (of_pmB hp).1
    obtain ⟨q, hq⟩ : ∃ q, (cyclesL xs).length = q := ⟨_, rfl⟩
    rw [hq] at TK TL TE LN
    have q32 : q ≤ 32 := by omega
    have HQ := Lib.hid hq
    clear hp hv hq LN l32
    go_enter Try.func42, Try.ntmps42
    go_wp2_with fail
    refine HX.out.mono ?_
    rintro e w1 ⟨rfl, k, rfl⟩
    go_wp2_with fail
    refine (T.out k).mono ?_
    rintro e w2 ⟨r, rfl, i2, b2⟩
    obtain ⟨a, cap, rfl, hc⟩ := i2.at.heads
    rw [HQ.out] at hc ⊢
    have HC := Lib.hid hc
    have B2 := Lib.hid (t_chain (Go.below_drewN (Below.refl _ W) k) b2)
    clear i2 b2 hc
    go_wp2
    go_loop [4, 5] (fun s i => ∃ j : Nat, j ≤ q ∧ i = .int .i64 j ∧ s = .int .i64 (ordL ((cyclesL xs).take j) : Nat)) (fun _ i => q - (intOf i).toNat)
    case atStart => exact ⟨0, by omega, rfl, by rw [TZ.out]; rfl⟩
    case round =>
      obtain ⟨j, hj, rfl, rfl⟩ := hrel
      by_cases c : j < q
      · have k1 : decide (j < q) = true := by simpa using c
        have k1' : decide ((j : Int) < (q : Int)) = true := decide_eq_true (by omega)
        obtain ⟨g, off, b, cc, rfl, cj⟩ := HC.out j c
        have TJ := Lib.hid (TK.out j c)
        have lj := TL.out j c
        obtain ⟨n, hn⟩ : ∃ n, ((cyclesL xs).getD j []).length = n := ⟨_, rfl⟩
        obtain ⟨z, hz⟩ : ∃ z, ordL ((cyclesL xs).take j) = z := ⟨_, rfl⟩
        have sz := S1.out j
        have sz2 := S1.out (j + 1)
        rw [TJ.out] at sz2
        rw [hn] at TJ cj lj sz2
        rw [hz] at TJ sz sz2
        have HG : Hid (∀ W : World, Calls Try.prog 71 #[.int .i64 (z : Nat), .int .i64 (n : Nat)] W fun e w' => e = .returned (.int .i64 (Nat.gcd z n : Nat)) ∧ W = w') := fun W => by
          have := sgcd_any (z : Int) (n : Int) W (by omega) (by omega) (by omega) (by omega)
          rwa [Int.gcd_natCast_natCast] at this
        have gp : 0 < Nat.gcd z n := Nat.gcd_pos_of_pos_left _ (by omega)
        have OS := ord_same z n
        have j0 : (0 : Int) ≤ (j : Int) := by omega
        have j1 : (j : Int) < (q : Int) := by omega
        have w3 := IntWalk.i64_in ((j : Int) + 1) (by omega)
        obtain ⟨G, hG⟩ : ∃ G, Nat.gcd z n = G := ⟨_, rfl⟩
        rw [hG] at HG gp OS TJ sz2
        have dz : z / G ≤ z := Nat.div_le_self _ _
        have e4 : (z : Int).tdiv (G : Int) = ((z / G : Nat) : Int) := by rw [Int.tdiv_eq_ediv_of_nonneg (by omega), ← Int.natCast_ediv]
        obtain ⟨D, hD⟩ : ∃ D, z / G = D := ⟨_, rfl⟩
        rw [hD] at dz OS e4
        have w4 : IntKind.i64.wrap ((z : Int).tdiv (G : Int)) = (D : Int) := by rw [e4]; exact IntWalk.i64_in _ (by omega)
        obtain ⟨E, hE⟩ : ∃ E, D * n = E := ⟨_, rfl⟩
        rw [hE] at OS
        have w5 : IntKind.i64.wrap ((D : Int) * (n : Int)) = (E : Int) := by rw [← Int.natCast_mul, hE]; exact IntWalk.i64_in _ (by omega)
        have W4 : Hid (wrap64 ((z : Int) / (G : Int)) = (D : Int)) := by
          unfold Hid
          rw [show (z : Int) / (G : Int) = (D : Int) by rw [← hD]; exact (Int.natCast_ediv z G).symm]
          unfold wrap64; omega
        have W5 : Hid (wrap64 ((D : Int) * (n : Int)) = (E : Int)) := by
          unfold Hid
          rw [← Int.natCast_mul, hE]
          unfold wrap64; omega
        have gz : ((G : Int) == 0) = false := by simp; omega
        have gz' : (G == 0) = false := by simp; omega
        rw [hz]
        have HO := Lib.hid OS
        clear hn hz hG OS sz2 hD hE e4
        go_wp2_with fail
        refine (HG.out _).mono ?_
        rintro e w' ⟨rfl, rfl⟩
        go_wp2
        go_round
        case rel => exact ⟨j + 1, by omega, by go_num, by rw [TJ.out, ← HO.out, W4.out, W5.out]⟩
        case measure => simp [intOf]; omega
      · have k1 : decide (j < q) = false := by simpa using c
        have k1' : decide ((j : Int) < (q : Int)) = false := decide_eq_false (by omega)
        obtain rfl : j = q := by omega
        go_wp2
        go_ret
        exact ⟨by rw [V.out, TE.out]; rfl, B2.out⟩
end Go.Proofs.Ytcgmencdadinbaa
