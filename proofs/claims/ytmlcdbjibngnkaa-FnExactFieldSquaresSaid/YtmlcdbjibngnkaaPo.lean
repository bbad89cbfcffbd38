/- Powers and traces, by the program and by the model. -/
import Derived.Test.YtmlcdbjibngnkaaBt
namespace Go.Proofs.Ytmlcdbjibngnkaa
open Go.RowKit
set_option linter.unusedVariables false
set_option linter.unusedSimpArgs false

theorem slice_len {w : World} {v : Value} {n : Nat} {c : Co} (h : IntsAt w v (vec n c)) : ∃ a cap, v = .slice a n cap := by
  obtain ⟨_, ⟨h1, a, cap, e⟩ | ⟨g, off, cap, e, _⟩⟩ := h
  · have := vec_length n c
    rw [h1] at this
    exact ⟨a, cap, by rw [e, ← this]; rfl⟩
  · rw [vec_length] at e
    exact ⟨_, cap, e⟩

set_option maxHeartbeats 1000000 in
theorem ipower (p k a N : Nat) (xs : List Int) (w : World) (h : FOk p k xs) (ha : a < p ^ k) (hN : N ≤ 9223372036854775807) :
    Calls Try.prog 64 #[.agg (ffv p k (p ^ k : Nat) (cofs xs)), .int .i64 a, .int .i64 N] w fun e w' => e = .returned (.int .i64 (pw p k (cofs xs) a N : Nat)) ∧ Below w.heap.size w w' := by
  have hF := Lib.hid (Fp.of h)
  have hb := h.bd
  have hq := h.2.2.1
  have q1 := q_big (Fp.of h)
  have HM := Lib.hid (fun (x y : Nat) (W : World) (hx : x < p ^ k) (hy : y < p ^ k) => imulN p k xs x y W h hx hy)
  have HT := Lib.hid (fun W : World => bitsTop N W hN)
  have S0 := Sf.start w p k (p ^ k : Nat) (cofs xs)
  have hi := Try.infoFfv p k (p ^ k : Nat) (cofs xs)
  obtain ⟨c, hc⟩ : ∃ c, ffv p k (p ^ k : Nat) (cofs xs) = c := ⟨_, rfl⟩
  have FC : Hid (∀ W, Ff W w.heap.size p k (p ^ k : Nat) (cofs xs) → W.heap[w.heap.size]? = some (.cells c 57 (0, 0))) := fun W hW => by rw [← hc]; exact hW
  rw [hc] at S0 HM hi ⊢
  have HI := Lib.hid hi
  clear h hc hi hN
  go_enter Try.func64, Try.ntmps64
  go_upto_region 3 with (go_at_call 97; refine (HT.out _).mono ?_; rintro e w2 ⟨v, L, rfl, hL, hNL, i2, b2⟩; have S2 := Sf.next S0 b2; obtain ⟨a', cap, rfl⟩ := slice_len i2.at; have I2 := Lib.hid i2; have N2 := Lib.hid hNL; clear i2 b2 hNL)
  by_cases c0 : L = 0
  · subst c0
    have E : Hid (1 = pw p k (cofs xs) a N) := by
      have := N2.out
      unfold Hid
      rw [show N = 0 by omega]; rfl
    go_wp2
    go_loopw [7, 13] (fun o i wr => o = .int .i64 1 ∧ i = .int .i64 0 ∧ wr = w2) (fun _ _ _ => 0)
    case atStart => exact ⟨rfl, rfl, rfl⟩
    case round =>
      obtain ⟨rfl, rfl, rfl⟩ := hrel
      go_wp2
      go_ret
      exact ⟨ret_i _ _ (by rw [← E.out]; rfl), S2.out.2⟩
  · obtain ⟨g, rfl⟩ : ∃ g, a' = some ⟨g, 0, none⟩ := by
      obtain ⟨g, cap', e⟩ := I2.out.form (by rw [vec_length]; omega)
      simp only [Value.slice.injEq] at e
      exact ⟨g, e.1⟩
    have St0 : Hid (1 = pw p k (cofs xs) a (N / 2 ^ (L - 0))) := by
      unfold Hid
      rw [Nat.sub_zero, Nat.div_eq_of_lt N2.out]; rfl
    obtain ⟨B, hB⟩ : ∃ B, (w.alloc (.cells c 57)).heap.size = B := ⟨_, rfl⟩
    rw [hB] at I2
    clear hB
    go_wp2
    go_loopw [7, 13] (fun o i wr => ∃ y j : Nat, j ≤ L ∧ y < p ^ k ∧ o = .int .i64 y ∧ i = .int .i64 j ∧ Hid (y = pw p k (cofs xs) a (N / 2 ^ (L - j))) ∧ Hid (Ints wr B (.slice (some ⟨g, 0, none⟩) L cap) (vec L (fun s => dg 2 N (L - 1 - s)))) ∧ Hid (Sf w w.heap.size p k (p ^ k : Nat) (cofs xs) wr)) (fun _ i _ => L - (intOf i).toNat)
    case atStart => exact ⟨1, 0, by omega, q1, rfl, rfl, St0, I2, S2⟩
    case round =>
      obtain ⟨y, j, hj, yq, rfl, rfl, hy, hI, hS⟩ := hrel
      by_cases c1 : j < L
      · obtain ⟨m, hm⟩ : ∃ m, N / 2 ^ (L - 1 - j) = m := ⟨_, rfl⟩
        have e0 : N / 2 ^ (L - j) = m / 2 := by rw [← hm, show L - j = (L - 1 - j) + 1 by omega, Nat.pow_succ, Nat.div_div_eq_div_mul]
        have e1 : N / 2 ^ (L - (j + 1)) = m := by rw [← hm, show L - (j + 1) = L - 1 - j by omega]
        have cj : wr.cell? ⟨g, j, none⟩ = some (.int .i64 ((m % 2 : Nat) : Int)) := by
          have := hI.out.cell j (by rw [vec_length]; omega)
          rwa [vec_getD _ _ _ c1, dg2, hm] at this
        have hy2 : fm p k (cofs xs) y y = pw p k (cofs xs) a (m / 2 + m / 2) := by rw [hy.out, e0, pw_add hF.out a ha]
        have j0 : (0 : Int) ≤ (j : Int) := by omega
        have jl : (j : Int) < (L : Int) := by omega
        have w1 := wrapk' (n := (j : Int) + 1) (by omega)
        have yy := fm_lt hF.out y y
        have HY2 := Lib.hid hy2
        have E1 := Lib.hid e1
        clear hm e0 e1 hy2
        rcases Nat.mod_two_eq_zero_or_one m with c2 | c2
        · have HE : Hid (fm p k (cofs xs) y y = pw p k (cofs xs) a (N / 2 ^ (L - (j + 1)))) := by unfold Hid; rw [E1.out, HY2.out, show m / 2 + m / 2 = m by omega]
          rw [c2] at cj
          clear c2
          go_upto_region 5 with fail
          refine wp_region_list ?_
          refine wpList_load_row rfl 57 (.tmp 3) rfl _ rfl _ _ _ _ (FC.out _ hS.out.1) Try.underlying57 rfl HI.out ?_
          go_wp2_with (go_at_call 61; refine (HM.out y y _ yq yq).mono ?_; rintro e w3 ⟨rfl, b3⟩; have S3 := Sf.next hS b3; have I3 := Lib.hid (hI.out.below b3 (Nat.le_refl _)); clear b3)
          go_roundw
          case rel => exact ⟨_, j + 1, by omega, yy, rfl, by go_num, HE, I3, S3⟩
          case measure => simp [intOf]; omega
        · have HE : Hid (fm p k (cofs xs) (fm p k (cofs xs) y y) a = pw p k (cofs xs) a (N / 2 ^ (L - (j + 1)))) := by
            unfold Hid
            rw [E1.out, HY2.out, show fm p k (cofs xs) (pw p k (cofs xs) a (m / 2 + m / 2)) a = pw p k (cofs xs) a (m / 2 + m / 2 + 1) from rfl, show m / 2 + m / 2 + 1 = m by omega]
          have yy2 := fm_lt hF.out (fm p k (cofs xs) y y) a
          rw [c2] at cj
          clear c2
          go_upto_region 5 with fail
          refine wp_region_list ?_
          refine wpList_load_row rfl 57 (.tmp 3) rfl _ rfl _ _ _ _ (FC.out _ hS.out.1) Try.underlying57 rfl HI.out ?_
          go_upto_region 7 with (go_at_call 61; refine (HM.out y y _ yq yq).mono ?_; rintro e w3 ⟨rfl, b3⟩; have S3 := Sf.next hS b3; have I3 := Lib.hid (hI.out.below b3 (Nat.le_refl _)); clear b3)
          refine wp_region_list ?_
          refine wpList_load_row rfl 57 (.tmp 3) rfl _ rfl _ _ _ _ (FC.out _ S3.out.1) Try.underlying57 rfl HI.out ?_
          go_wp2_with (go_at_call 61; refine (HM.out _ a _ yy ha).mono ?_; rintro e w4 ⟨rfl, b4⟩; have S4 := Sf.next S3 b4; have I4 := Lib.hid (I3.out.below b4 (Nat.le_refl _)); clear b4)
          go_roundw
          case rel => exact ⟨_, j + 1, by omega, yy2, rfl, by go_num, HE, I4, S4⟩
          case measure => simp [intOf]; omega
      · have ej : j = L := by omega
        subst ej
        have E : Hid (y = pw p k (cofs xs) a N) := by
          have := hy.out
          unfold Hid
          rwa [Nat.sub_self, Nat.pow_zero, Nat.div_one] at this
        go_wp2
        go_ret
        exact ⟨ret_i _ _ (by rw [E.out]), hS.out.2⟩

/-- The sum of the powers a, a^p, .. -/
def trF (p k : Nat) (f : Co) (a : Nat) : Nat → Nat × Nat
  | 0 => (0, a)
  | n + 1 => ((fadd p k (trF p k f a n).1 (trF p k f a n).2).toNat, pw p k f (trF p k f a n).2 p)
theorem fadd_bd {p k : Nat} (hp : 2 ≤ p) (a b : Nat) (ha : a < p ^ k) (hb : b < p ^ k) : ((fadd p k a b).toNat : Int) = fadd p k a b ∧ (fadd p k a b).toNat < p ^ k := by
  have h := num_bd p (fun i => (dg p a i + dg p b i) % p) (by omega) k 0 (fun j => ⟨Int.emod_nonneg _ (by omega), Int.emod_lt_of_pos _ (by omega)⟩)
  unfold fadd
  omega
theorem trF_lt {p k : Nat} {f : Co} (h : Fp p k f) (a : Nat) (ha : a < p ^ k) : ∀ n, (trF p k f a n).1 < p ^ k ∧ (trF p k f a n).2 < p ^ k
  | 0 => ⟨by have := q_big h; show 0 < p ^ k; omega, ha⟩
  | n + 1 => ⟨(fadd_bd h.p2 _ _ (trF_lt h a ha n).1 (trF_lt h a ha n).2).2, pw_lt h _ _⟩

set_option maxHeartbeats 1000000 in
theorem itrace (p k a : Nat) (xs : List Int) (w : World) (h : FOk p k xs) (ha : a < p ^ k) :
    Calls Try.prog 67 #[.agg (ffv p k (p ^ k : Nat) (cofs xs)), .int .i64 a] w fun e w' => e = .returned (.int .i64 ((trF p k (cofs xs) a k).1 : Nat)) ∧ Below w.heap.size w w' := by
  have hF := Lib.hid (Fp.of h)
  have hb := h.bd
  have hq := h.2.2.1
  have HA := Lib.hid (fun (x y : Nat) (W : World) (hx : x < p ^ k) (hy : y < p ^ k) => iadd p k (p ^ k : Nat) (cofs xs) x y W hb.1 hb.2.1 hb.2.2 hq hx hy)
  have HP := Lib.hid (fun (x : Nat) (W : World) (hx : x < p ^ k) => ipower p k x p xs W h hx (by omega))
  have TL := Lib.hid (fun n => trF_lt (Fp.of h) a ha n)
  have S0 := Sf.start w p k (p ^ k : Nat) (cofs xs)
  obtain ⟨cc, hc⟩ : ∃ cc, ffv p k (p ^ k : Nat) (cofs xs) = cc := ⟨_, rfl⟩
  have FC : Hid (∀ W, Ff W w.heap.size p k (p ^ k : Nat) (cofs xs) → W.heap[w.heap.size]? = some (.cells cc 57 (0, 0))) := fun W hW => by rw [← hc]; exact hW
  have hi := Try.infoFfv p k (p ^ k : Nat) (cofs xs)
  rw [hc] at S0 hi HA HP ⊢
  have HI := Lib.hid hi
  clear h hc hi
  go_enter Try.func67, Try.ntmps67
  have c1 := S0.out.1.cells.2.1
  go_wp2
  go_loopw [5, 6, 10] (fun s o i wr => ∃ j x y : Nat, j ≤ k ∧ x < p ^ k ∧ y < p ^ k ∧ s = .int .i64 x ∧ o = .int .i64 y ∧ i = .int .i64 j ∧ Hid (trF p k (cofs xs) a j = (x, y)) ∧ Hid (Sf w w.heap.size p k (p ^ k : Nat) (cofs xs) wr)) (fun _ _ i _ => k - (intOf i).toNat)
  case atStart => exact ⟨0, 0, a, by omega, by have := q_big hF.out; omega, ha, rfl, rfl, rfl, rfl, S0⟩
  case round =>
    obtain ⟨j, x, y, hj, hx, hy, rfl, rfl, rfl, hT, hS⟩ := hrel
    by_cases c1 : j < k
    · have g1 : decide (j < k) = true := by simpa using c1
      have w1 := wrapk' (n := (j : Int) + 1) (by omega)
      obtain ⟨z, hz⟩ : ∃ z : Nat, (fadd p k x y).toNat = z := ⟨_, rfl⟩
      obtain ⟨u, hu⟩ : ∃ u : Nat, pw p k (cofs xs) y p = u := ⟨_, rfl⟩
      have hzl : z < p ^ k := by rw [← hz]; exact (fadd_bd hF.out.p2 x y hx hy).2
      have hul : u < p ^ k := by rw [← hu]; exact pw_lt hF.out _ _
      have HA1 : Hid (∀ W : World, Calls Try.prog 76 #[.agg cc, .int .i64 x, .int .i64 y] W fun e w' => e = .returned (.int .i64 z) ∧ Below W.heap.size W w') := fun W => by
        rw [← hz, (fadd_bd hF.out.p2 x y hx hy).1]; exact HA.out x y W hx hy
      have HP1 := Lib.hid (fun W : World => HP.out y W hy)
      rw [hu] at HP1
      have HT : Hid (trF p k (cofs xs) a (j + 1) = (z, u)) := by
        unfold Hid
        rw [trF, hT.out]
        show ((fadd p k x y).toNat, pw p k (cofs xs) y p) = (z, u)
        rw [hz, hu]
      clear hz hu hT
      go_upto_region 5 with fail
      refine wp_region_list ?_
      refine wpList_load_row rfl 57 (.tmp 2) rfl _ rfl _ _ _ _ (FC.out _ hS.out.1) Try.underlying57 rfl HI.out ?_
      go_upto_region 6 with (go_at_call 76; refine (HA1.out _).mono ?_; rintro e w3 ⟨rfl, b3⟩; have S3 := Sf.next hS b3; clear b3)
      obtain ⟨d0, d1, d2⟩ := S3.out.1.cells
      refine wp_region_list ?_
      refine wpList_load_row rfl 57 (.tmp 2) rfl _ rfl _ _ _ _ (FC.out _ S3.out.1) Try.underlying57 rfl HI.out ?_
      go_wp2_with (go_at_call 64; refine (HP1.out _).mono ?_; rintro e w4 ⟨rfl, b4⟩; have S4 := Sf.next S3 b4; clear b4)
      go_roundw
      case rel => exact ⟨j + 1, z, u, by omega, hzl, hul, rfl, rfl, by go_num, HT, S4⟩
      case measure => simp [intOf]; omega
    · have g1 : decide (j < k) = false := by simpa using c1
      have E : Hid ((x : Nat) = (trF p k (cofs xs) a k).1) := by
        have e := hT.out
        rw [show j = k by omega] at e
        unfold Hid
        rw [e]
      clear c1
      go_wp2
      go_ret
      exact ⟨ret_i _ _ (by rw [← E.out]), hS.out.2⟩
end Go.Proofs.Ytmlcdbjibngnkaa
