/- Digits, numbers and remainders, by the model. -/
import Derived.Test.YtmlcdbjibngnkaaFm
import Derived.Test.YtmlcdbjibngnkaaArg
import Derived.BigRegion
import Derived.Deep.Cut
namespace Go.Proofs.Ytmlcdbjibngnkaa
open Go.RowKit
set_option linter.unusedVariables false

theorem w64' {n : Int} (h : -9223372036854775808 ≤ n ∧ n ≤ 9223372036854775807) : wrap64 n = n := by unfold wrap64; omega
theorem wrapk' {n : Int} (h : -9223372036854775808 ≤ n ∧ n ≤ 9223372036854775807) : IntKind.i64.wrap n = n := IntWalk.i64_in _ h
theorem Ints.stored {w : World} {B g n cap : Nat} {xs : List Int} (h : Ints w B (.slice (some ⟨g, 0, none⟩) n cap) xs) (hn : xs.length = n) (j : Nat) (y : Int) :
    Ints (w.setCell ⟨g, j, none⟩ (.int .i64 y)) B (.slice (some ⟨g, 0, none⟩) n cap) (xs.set j y) := by
  subst hn
  unfold Ints at h ⊢
  rw [List.length_set]
  have := (World.ownsRow.stored h j (.int .i64 y)).1
  rwa [← List.map_set] at this
theorem Ints.base {w : World} {B g n cap : Nat} {xs : List Int} (h : Ints w B (.slice (some ⟨g, 0, none⟩) n cap) xs) : B ≤ g ∧ g < w.heap.size := World.ownsRow.lt h g rfl
theorem Ints.cell {w : World} {B g n cap : Nat} {xs : List Int} (h : Ints w B (.slice (some ⟨g, 0, none⟩) n cap) xs) (j : Nat) (hj : j < xs.length) : w.cell? ⟨g, j, none⟩ = some (.int .i64 (xs.getD j 0)) := by
  obtain ⟨_, ⟨rfl, -⟩ | ⟨g', off, cap', e, hc⟩⟩ := h.at
  · simp at hj
  · simp only [Value.slice.injEq, Option.some.injEq, Addr.mk.injEq] at e
    obtain ⟨⟨rfl, rfl, -⟩, -, -⟩ := e
    have := hc j hj
    rwa [Nat.zero_add] at this
theorem Ints.frozen {w : World} {B g n cap : Nat} {xs : List Int} (h : Ints w B (.slice (some ⟨g, 0, none⟩) n cap) xs) (j : Nat) : w.frozen? ⟨g, j, none⟩ = false := by
  obtain ⟨h1, ⟨h2, _⟩ | ⟨g', cap', cur, e, h3, h4, h5⟩⟩ := h
  · cases h2
  · simp only [Value.slice.injEq, Option.some.injEq, Addr.mk.injEq] at e
    obtain ⟨⟨rfl, -, -⟩, -, -⟩ := e
    simp [World.frozen?, h4]
theorem Ints.pre {w : World} {B g n cap : Nat} {xs : List Int} (h : Ints w B (.slice (some ⟨g, 0, none⟩) n cap) xs) (m : Nat) (hm : m ≤ n) : Ints w B (.slice (some ⟨g, 0, none⟩) m cap) (xs.take m) := by
  obtain ⟨h1, ⟨h2, _⟩ | ⟨g', cap', cur, e, h3, h4, h5, h6, h7, h8⟩⟩ := h
  · cases h2
  · simp only [Value.slice.injEq, Option.some.injEq, Addr.mk.injEq] at e
    obtain ⟨⟨rfl, -, -⟩, e2, rfl⟩ := e
    have hl : (xs.take m).length = m := by rw [List.length_take]; omega
    unfold Ints
    rw [hl]
    refine ⟨by rw [List.length_map, hl, Nat.mul_one], .inr ⟨g, cap, cur, rfl, h3, h4, by omega, h6, h7, ?_⟩⟩
    rw [List.map_take, ← h8, List.take_take, Nat.mul_one, Nat.mul_one, Nat.min_eq_left (by omega)]

theorem Ints.capLe {w : World} {B g n cap : Nat} {xs : List Int} (h : Ints w B (.slice (some ⟨g, 0, none⟩) n cap) xs) : n ≤ cap := by
  obtain ⟨h1, ⟨h2, _⟩ | ⟨g', cap', cur, e, h3, h4, h5, -⟩⟩ := h
  · cases h2
  · simp only [Value.slice.injEq] at e
    obtain ⟨-, rfl, rfl⟩ := e
    exact h5
theorem Ints.form {w : World} {B : Nat} {v : Value} {xs : List Int} (h : Ints w B v xs) (h0 : 0 < xs.length) : ∃ g cap, v = .slice (some ⟨g, 0, none⟩) xs.length cap := by
  obtain ⟨h1, ⟨rfl, h2⟩ | ⟨g, cap, cur, rfl, -⟩⟩ := h
  · omega
  · exact ⟨g, cap, rfl⟩

def lenOf : Value → Nat
  | .slice _ n _ => n
  | _ => 0

/-- append([]int64{}, s...): a copy. -/
theorem own_any (w : World) (v : Value) (xs : List Int) (hv : IntsAt w v xs) (hx : xs.length ≤ 1048576) (h0 : 0 < xs.length) :
    Calls Try.prog 109 #[v] w fun e w' => ∃ v', e = .returned v' ∧ Ints w' w.heap.size v' xs ∧ Below w.heap.size w w' := by
  obtain ⟨i0, hi, hz0, hz1, hz2⟩ := info_parts Try.infoInt
  obtain ⟨g, off, cap, rfl, hc⟩ : ∃ g off cap, v = .slice (some ⟨g, off, none⟩) xs.length cap ∧ ∀ j, j < xs.length → w.cell? ⟨g, off + j, none⟩ = some (.int .i64 (xs.getD j 0)) := by
    rcases hv.2 with ⟨rfl, _⟩ | h
    · simp at h0
    · exact h
  obtain ⟨n, hn⟩ : ∃ n, xs.length = n := ⟨_, rfl⟩
  have HO : Hid (Ints (w.alloc (.cells #[] 2)) w.heap.size (.slice (some ⟨w.heap.size, 0, none⟩) 0 0) []) := World.ownsRow_made w #[] 0 (Nat.le_refl _) (by decide) rfl
  have HB : Hid (Below w.heap.size w (w.alloc (.cells #[] 2))) := (Below.refl _ _).alloc (Nat.le_refl _) _
  have hg : g < w.heap.size := by have := hc 0 h0; exact World.block_lt_of_cell? w _ this
  have HC : Hid (∀ j u, (xs.map (Value.int .i64))[j]? = some u → (w.alloc (.cells #[] 2)).cell? ((⟨g, off, none⟩ : Addr).add j) = some u) := by
    intro j u hj
    rw [List.getElem?_map] at hj
    have hj' : j < xs.length := by
      by_cases h : j < xs.length
      · exact h
      · rw [List.getElem?_eq_none (by omega)] at hj; cases hj
    rw [List.getElem?_eq_getElem hj'] at hj
    simp only [Option.map_some, Option.some.injEq] at hj
    subst hj
    have k := hc j hj'
    rw [show (⟨g, off, none⟩ : Addr).add j = ⟨g, off + j, none⟩ by unfold Addr.add; split <;> simp_all]
    rw [HB.out.cell (p := ⟨g, off + j, none⟩) hg, k]
    simp [List.getD, List.getElem?_eq_getElem hj']
  have HX := Lib.hid hn
  clear hc hv
  rw [hn] at hx h0 ⊢
  clear hn
  go_enter Try.func109, Try.ntmps109
  go_wp2_with (at_builtin; refine wpList_append_own _ (by rfl) _ _ 23 (by rfl) w.heap.size 2 i0 (.int .i64 0) 1 8 Try.underlying23 hi hz0 hz1 hz2 rfl (by decide) _ 0 _ (by rfl) HO.out ⟨g, off, none⟩ n cap (xs.map (Value.int .i64)) (by rfl) (by rw [List.length_map, HX.out]; omega) HC.out (by intro u hu; obtain ⟨x, _, rfl⟩ := List.mem_map.1 hu; rfl) (by unfold maxLen; omega) (by omega) (Nat.le_of_lt (by simp)) ?_; intro v' w' h' hg' _; have H2 := Lib.hid h'; have G2 := Lib.hid hg'; clear h' hg')
  go_ret
  refine ⟨_, rfl, ?_, HB.out.grown G2.out (by simp) (fun k hk => ?_)⟩
  · have := H2.out
    unfold Ints
    rw [HX.out]
    simpa using this
  · simp [Value.ownBlock] at hk; omega

/-- The n digits of a number. -/
theorem sdigits (a p n : Nat) (w : World) (hp : 2 ≤ p) (hp' : p ≤ 64) (ha : a ≤ 1000000) (hn : n ≤ 12) :
    Calls Try.prog 86 #[.int .i64 a, .int .i64 p, .int .i64 n] w fun e w' => ∃ v', e = .returned v' ∧ Ints w' w.heap.size v' (vec n (dg p a)) ∧ Below w.heap.size w w' := by
  have z1 : ¬ (p : Int) = 0 := by omega
  go_enter Try.func86, Try.ntmps86
  go_wp2
  obtain ⟨wo, hwo⟩ : ∃ wo, w.alloc (.cells #[] 2) = wo := ⟨_, rfl⟩
  have HI : Hid (Ints wo w.heap.size (.slice (some ⟨w.heap.size, 0, none⟩) 0 0) []) := by rw [← hwo]; exact World.ownsRow_made w #[] 0 (Nat.le_refl _) (by decide) rfl
  have HB : Hid (Below w.heap.size w wo) := by rw [← hwo]; exact (Below.refl _ _).alloc (Nat.le_refl _) _
  rw [hwo]
  clear hwo
  obtain ⟨B, hB⟩ : ∃ B, w.heap.size = B := ⟨_, rfl⟩
  have hB0 : B ≤ w.heap.size := by omega
  rw [hB] at HI HB ⊢
  have HE := Lib.hid hB
  clear hB
  go_loopw [0, 2, 7] (fun s m v wr => ∃ j : Nat, j ≤ n ∧ s = .int .i64 ((a / p ^ j : Nat) : Int) ∧ m = .int .i64 ((n : Int) - (j : Int)) ∧ Hid (Ints wr B v (vec j (dg p a))) ∧ Hid (Below B w wr)) (fun _ m _ _ => (intOf m).toNat)
  case atStart => exact ⟨0, by omega, by simp, by simp, HI, HB⟩
  case round =>
    obtain ⟨j, hj, rfl, rfl, hI, hBl⟩ := hrel
    obtain ⟨q, hq⟩ : ∃ q, a / p ^ j = q := ⟨_, rfl⟩
    have q1 : q ≤ 1000000 := by rw [← hq]; exact Nat.le_trans (Nat.div_le_self _ _) ha
    have HQ := Lib.hid hq
    rw [hq]
    clear hq
    by_cases hlt : j < n
    · have g1 : (0 : Int) < (n : Int) - (j : Int) := by omega
      have s2 : B ≤ wr.heap.size := by have := hBl.out.size; omega
      have hlen := vec_length j (dg p a)
      have E := Lib.hid (show (q : Int) / (p : Int) = ((a / p ^ (j + 1) : Nat) : Int) by rw [Nat.pow_succ, ← Nat.div_div_eq_div_mul, HQ.out]; rfl)
      obtain ⟨q', hq'⟩ : ∃ q' : Nat, q / p = q' := ⟨_, rfl⟩
      have q2 : q' ≤ 1000000 := by rw [← hq']; exact Nat.le_trans (Nat.div_le_self _ _) q1
      have e1 : (q : Int) / (p : Int) = (q' : Int) := by rw [← hq']; rfl
      have E1 := Lib.hid e1
      have V := Lib.hid (show vec j (dg p a) ++ [(q : Int) % (p : Int)] = vec (j + 1) (dg p a) by rw [vec_succ]; congr 2; unfold dg; rw [HQ.out]; rfl)
      clear hq' e1
      go_wp2_with (at_builtin; refine wpList_push wr (by rfl) _ _ (by rfl) B _ _ (by rfl) hI.out ((q : Int) % (p : Int)) _ (by rfl) (by omega) s2 ?_; intro v' w1 hn hb; have HN' := Lib.hid hn; have HB2 := Lib.hid hb; clear hn hb)
      go_roundw
      case rel => exact ⟨j + 1, by omega, by rw [← E.out, E1.out, w64' (by omega)], by go_num, by rw [← V.out]; exact HN', hBl.out.trans HB2.out⟩
      case measure => simp only [intOf]; omega
    · obtain rfl : j = n := by omega
      have g1 : ¬ (0 : Int) < (j : Int) - (j : Int) := by omega
      go_wp2
      go_ret
      exact ⟨_, rfl, by rw [HE.out]; exact hI.out, by rw [HE.out]; exact hBl.out⟩

/-- The number with some digits. -/
theorem snumber (p n : Nat) (c : Co) (v : Value) (w : World) (hv : IntsAt w v (vec n c)) (hp : 2 ≤ p) (hp' : p ≤ 64) (hc : ∀ i, 0 ≤ c i ∧ c i < p) (hn : p ^ n ≤ 4096) (hn' : n ≤ 12) :
    Calls Try.prog 98 #[v, .int .i64 p] w fun e w' => e = .returned (.int .i64 (num p c n 0)) ∧ w = w' := by
  obtain ⟨a, cap, rfl⟩ : ∃ a cap, v = .slice a n cap := by
    rcases hv.2 with ⟨h, a, cap, rfl⟩ | ⟨g, off, cap, rfl, _⟩
    · have : n = 0 := by have := vec_length n c; rw [h] at this; simpa using this.symm
      exact ⟨a, cap, by rw [this]⟩
    · exact ⟨_, cap, by rw [vec_length]⟩
  have HC : Hid (∀ j, j < n → ∃ g off, a = some ⟨g, off, none⟩ ∧ w.cell? ⟨g, off + j, none⟩ = some (.int .i64 (c j))) := by
    intro j hj
    rcases hv.2 with ⟨h, _⟩ | ⟨g, off, cap', e, hc⟩
    · have := vec_length n c; rw [h] at this; simp at this; omega
    · simp only [Value.slice.injEq] at e
      exact ⟨g, off, e.1, by rw [hc j (by rw [vec_length]; exact hj), vec_getD n c j hj]⟩
  have HT : Hid (∀ k, k ≤ n → 0 ≤ num p c k (n - k) ∧ num p c k (n - k) ≤ 4096) := by
    intro k hk
    have b := num_bd p c (by omega) k (n - k) hc
    have q : p ^ k ≤ p ^ n := Nat.pow_le_pow_right (by omega) hk
    omega
  clear hv hc hn
  go_enter Try.func98, Try.ntmps98
  go_wp2
  go_loop [5, 6] (fun u i => ∃ k : Nat, k ≤ n ∧ u = .int .i64 (num p c k (n - k)) ∧ i = .int .i64 ((n : Int) - 1 - (k : Int))) (fun _ i => (intOf i + 1).toNat)
  case atStart => exact ⟨0, by omega, rfl, by simp⟩
  case round =>
    obtain ⟨k, hk, rfl, rfl⟩ := hrel
    obtain ⟨m, hm⟩ : ∃ m, num p c k (n - k) = m := ⟨_, rfl⟩
    have HM := Lib.hid hm
    have hb0 := HT.out k hk
    rw [hm] at hb0 ⊢
    obtain ⟨m0, m1⟩ := hb0
    clear hm
    by_cases hlt : k < n
    · obtain ⟨i, hi⟩ : ∃ i : Nat, n - 1 - k = i := ⟨_, rfl⟩
      have ei : (n : Int) - 1 - (k : Int) = (i : Int) := by omega
      rw [ei]
      have hi1 : (0 : Int) ≤ (i : Int) := by omega
      have hi2 : (i : Int) < (n : Int) := by omega
      obtain ⟨g, off, rfl, hcell⟩ := HC.out i (by omega)
      obtain ⟨x, hx⟩ : ∃ x, c i = x := ⟨_, rfl⟩
      rw [hx] at hcell
      have N1 := Lib.hid (show num p c (k + 1) (n - (k + 1)) = m * p + x by
        rw [num, show n - (k + 1) = i by omega, show i + 1 = n - k by omega, HM.out, hx, Int.mul_comm]; omega)
      have n1 := HT.out (k + 1) (by omega)
      rw [N1.out] at n1
      obtain ⟨n0, n1⟩ := n1
      have p0 : 0 ≤ m * (p : Int) := Int.mul_nonneg m0 (by omega)
      have p1 : m * (p : Int) ≤ 4096 * 64 := Int.mul_le_mul m1 (by omega) (by omega) (by omega)
      have K := Lib.hid hk
      have I := Lib.hid hi
      clear hk hi hx
      go_wp2
      go_round
      case rel => exact ⟨k + 1, by have := K.out; omega, by rw [N1.out], by go_num⟩
      case measure => simp only [intOf]; omega
    · obtain rfl : k = n := by omega
      have e : (k : Int) - 1 - (k : Int) = -1 := by omega
      rw [e]
      have E := Lib.hid (show m = num p c k 0 by rw [← HM.out, Nat.sub_self])
      go_wp2
      go_ret
      exact ⟨ret_i _ _ E.out, rfl⟩

theorem smod (p : Nat) (hp : 2 ≤ p) (hp' : p ≤ 64) (x y f : Int) (x0 : 0 ≤ x) (x1 : x < p) (y0 : 0 ≤ y) (y1 : y < p) (f0 : 0 ≤ f) (f1 : f < p) : 0 ≤ (p - f) * y ∧ (p - f) * y ≤ 4096 ∧ (x + (p - f) * y) % p = (x - f * y) % p := by
  have h0 : 0 ≤ ((p : Int) - f) * y := Int.mul_nonneg (by omega) y0
  have h1 : ((p : Int) - f) * y ≤ 64 * 64 := Int.mul_le_mul (by omega) (by omega) y0 (by omega)
  refine ⟨h0, by omega, ?_⟩
  rw [Int.sub_mul, show x + ((p : Int) * y - f * y) = x - f * y + (p : Int) * y by omega, Int.add_mul_emod_self_left]

set_option maxHeartbeats 2000000 in
/-- The remainder, as a shorter list. -/
theorem srest (p d L : Nat) (c b : Co) (u v : Value) (w : World) (hu : IntsAt w u (vec L c)) (hv : IntsAt w v (vec (d + 1) b)) (hp : 2 ≤ p) (hp' : p ≤ 64) (hd : 1 ≤ d) (hd6 : d ≤ 6) (hL : 1 ≤ L) (hL' : L ≤ 12) (hc : Rd p L c) (hb : ∀ i, 0 ≤ b i ∧ b i < p) :
    Calls Try.prog 99 #[u, v, .int .i64 p] w fun e w' => ∃ v', e = .returned v' ∧ Ints w' w.heap.size v' (vec (min L d) (red p b d (L - d) c)) ∧ Below w.heap.size w w' := by
  have z1 : ¬ (p : Int) = 0 := by omega
  have HO := Lib.hid (own_any w u (vec L c) hu (by rw [vec_length]; omega) (by rw [vec_length]; omega))
  obtain ⟨g2, o2, cap2, rfl, hc2⟩ : ∃ g off cap, v = .slice (some ⟨g, off, none⟩) (d + 1) cap ∧ ∀ j, j < d + 1 → w.cell? ⟨g, off + j, none⟩ = some (.int .i64 (b j)) := by
    rcases hv.2 with ⟨h, _⟩ | ⟨g, off, cap, e, hcc⟩
    · have := vec_length (d + 1) b; rw [h] at this; simp at this
    · rw [vec_length] at e hcc
      exact ⟨g, off, cap, e, fun j hj => by rw [hcc j hj, vec_getD _ _ _ hj]⟩
  have hg2 : g2 < w.heap.size := by have := hc2 0 (by omega); exact World.block_lt_of_cell? w _ this
  have HC2 := Lib.hid hc2
  have HB := Lib.hid hb
  have HC := Lib.hid hc
  clear hu hv hb hc hc2
  go_enter Try.func99, Try.ntmps99
  go_upto_region 2 with (go_at_call 109; refine HO.out.mono ?_; rintro e w1 ⟨v1, rfl, hi1, hb1⟩)
  obtain ⟨g, cap, rfl⟩ : ∃ g cap, v1 = .slice (some ⟨g, 0, none⟩) L cap := by have := hi1.form (by rw [vec_length]; omega); rwa [vec_length] at this
  have I1 := Lib.hid hi1
  have B1 := Lib.hid hb1
  clear hi1 hb1 HO
  obtain ⟨B, hB⟩ : ∃ B, w.heap.size = B := ⟨_, rfl⟩
  have hB0 : B ≤ w.heap.size := by omega
  rw [hB] at I1 B1 hg2
  have HE := Lib.hid hB
  clear hB
  have hgB : B ≤ g := I1.out.base.1
  have hcap := I1.out.capLe
  go_wp2
  go_loopw [9] (fun i wr => ∃ m : Nat, m ≤ L - d ∧ i = .int .i64 ((if L ≤ d then (L : Int) - 1 else (d : Int) + (m : Int) - 1)) ∧ ∃ c' : Co, Hid (Rd p L c') ∧ Hid (red p b d m c' = red p b d (L - d) c) ∧ Hid (Ints wr B (.slice (some ⟨g, 0, none⟩) L cap) (vec L c')) ∧ Hid (Below B w wr)) (fun i _ => (intOf i + 1 - (d : Int)).toNat)
  case atStart =>
    refine ⟨L - d, by omega, ?_, c, HC, rfl, I1, B1⟩
    split <;> go_num
  case round =>
    obtain ⟨m, hm, rfl, c', hr, he, hI, hBl⟩ := hrel
    by_cases hm0 : m = 0
    · subst hm0
      have E : Hid (c' = red p b d (L - d) c) := he.out
      have A1 : Hid (Ints wr B (.slice (some ⟨g, 0, none⟩) L cap) (vec L (red p b d (L - d) c))) := by rw [← E.out]; exact hI
      obtain ⟨i, hi⟩ : ∃ i : Int, (if L ≤ d then (L : Int) - 1 else (d : Int) + ((0 : Nat) : Int) - 1) = i := ⟨_, rfl⟩
      rw [hi]
      have hi1 : i < (d : Int) := by split at hi <;> omega
      have hi2 : -1 ≤ i := by split at hi <;> omega
      clear he E hI hi
      obtain ⟨wq, rfl⟩ : ∃ wq : World, wq = wr := ⟨_, rfl⟩
      go_wp2
      go_loopw [7] (fun s wr => ∃ l : Nat, min L d ≤ l ∧ l ≤ L ∧ s = .slice (some ⟨g, 0, none⟩) l cap ∧ wr = wq) (fun s _ => (lenOf s))
      case atStart => exact ⟨L, by omega, by omega, rfl, rfl⟩
      case round =>
        obtain ⟨l, l1, l2, rfl, rfl⟩ := hrel
        by_cases hl : d + 1 ≤ l
        · obtain ⟨q, rfl⟩ : ∃ q, l = q + 1 := ⟨l - 1, by omega⟩
          have h1 : ((d + 1 : Nat) : Int) ≤ ((q + 1 : Nat) : Int) := by omega
          have eq : ((q + 1 : Nat) : Int) - 1 = (q : Int) := by omega
          have hq1 : (q : Int) ≤ (cap : Int) := by omega
          have hq0 : (0 : Int) ≤ (q : Int) := by omega
          go_wp2
          go_roundw
          case rel => exact ⟨q, by omega, by omega, rfl, trivial⟩
          case measure => simp [lenOf]
        · obtain rfl : l = min L d := by omega
          have A2 := Lib.hid (A1.out.pre (min L d) (by omega))
          rw [vec_take _ _ _ (by omega)] at A2
          go_wp2
          go_ret
          exact ⟨_, rfl, by rw [HE.out]; exact A2.out, by rw [HE.out]; exact hBl.out⟩
    · obtain ⟨n, rfl⟩ : ∃ n, m = n + 1 := ⟨m - 1, by omega⟩
      have hLd : ¬ L ≤ d := by omega
      rw [if_neg hLd]
      obtain ⟨t, ht⟩ : ∃ t : Nat, d + n = t := ⟨_, rfl⟩
      have et : (d : Int) + ((n + 1 : Nat) : Int) - 1 = (t : Int) := by omega
      rw [et]
      have t0 : (0 : Int) ≤ (t : Int) := by omega
      have t1 : (t : Int) < (L : Int) := by omega
      have t2 : (d : Int) ≤ (t : Int) := by omega
      obtain ⟨f, hf⟩ : ∃ f, c' t = f := ⟨_, rfl⟩
      obtain ⟨f0, f1, -⟩ := hr.out t
      rw [hf] at f0 f1
      have cf : wr.cell? ⟨g, t, none⟩ = some (.int .i64 f) := by
        have := hI.out.cell t (by rw [vec_length]; omega)
        rw [vec_getD _ _ _ (by omega), hf] at this
        exact this
      have HF := Lib.hid hf
      have HT := Lib.hid ht
      have HM := Lib.hid hm
      have HE2 : Hid (red p b d n (stp p b d t c') = red p b d (L - d) c) := by have := he.out; rw [red, ht] at this; exact this
      have HR2 : Hid (Rd p L (stp p b d t c')) := stp_rd (by omega) hr.out (by omega)
      clear hf ht hm he et hm0
      obtain ⟨wq, rfl⟩ : ∃ wq : World, wq = wr := ⟨_, rfl⟩
      go_wp2
      go_loopw [11] (fun i wr => ∃ k : Nat, k ≤ d + 1 ∧ i = .int .i64 k ∧ Hid (Ints wr B (.slice (some ⟨g, 0, none⟩) L cap) (vec L (stpK p b d t k c'))) ∧ Hid (Below B w wr)) (fun i _ => d + 1 - (intOf i).toNat)
      case atStart => exact ⟨0, by omega, rfl, by rw [stpK_zero]; exact hI, hBl⟩
      case round =>
        obtain ⟨k, hk, rfl, hI2, hB2⟩ := hrel
        by_cases hlk : k ≤ d
        · have k1 : (0 : Int) ≤ (k : Int) := by omega
          have k3 : (k : Int) < (d : Int) + 1 := by omega
          obtain ⟨q, hq⟩ : ∃ q : Nat, t - d + k = q := ⟨_, rfl⟩
          have e1 : (t : Int) - ((d : Int) + 1) + 1 + (k : Int) = (q : Int) := by omega
          have q1 : (0 : Int) ≤ (q : Int) := by omega
          have q2 : (q : Int) < (L : Int) := by omega
          obtain ⟨y, hy⟩ : ∃ y, b k = y := ⟨_, rfl⟩
          obtain ⟨x, hx⟩ : ∃ x, stpK p b d t k c' q = x := ⟨_, rfl⟩
          obtain ⟨y0, y1⟩ := HB.out k
          rw [hy] at y0 y1
          have xb : 0 ≤ x ∧ x < (p : Int) := by
            rw [← hx]
            unfold stpK
            split
            · exact ⟨Int.emod_nonneg _ (by omega), Int.emod_lt_of_pos _ (by omega)⟩
            · exact ⟨(hr.out q).1, (hr.out q).2.1⟩
          obtain ⟨x0, x1⟩ := xb
          have c0 : wr.cell? ⟨g, q, none⟩ = some (.int .i64 x) := by
            have := hI2.out.cell q (by rw [vec_length]; omega)
            rw [vec_getD _ _ _ (by omega), hx] at this
            exact this
          have c1 : wr.cell? ⟨g2, o2 + k, none⟩ = some (.int .i64 y) := by rw [← hy]; exact (hB2.out.cell (p := ⟨g2, o2 + k, none⟩) hg2).trans (HC2.out k (by omega))
          have f0' := hI2.out.frozen q
          obtain ⟨m0, m1, m2⟩ := smod p hp hp' x y f x0 x1 y0 y1 f0 f1
          have w1 := wrapk' (n := (p : Int) - f) (by omega)
          have w2 := wrapk' (n := ((p : Int) - f) * y) (by omega)
          have w3 := wrapk' (n := x + ((p : Int) - f) * y) (by omega)
          have S0 : Hid (Ints (wr.setCell ⟨g, q, none⟩ (.int .i64 ((x + ((p : Int) - f) * y) % p))) B (.slice (some ⟨g, 0, none⟩) L cap) (vec L (stpK p b d t (k + 1) c'))) := by
            have := hI2.out.stored (vec_length _ _) q ((x - f * y) % p)
            rw [m2]
            rw [stpK_succ p b d t k c' hlk (by omega), hq, hx, hy, HF.out, ← vec_set]
            exact this
          have SB : Hid (Below B w (wr.setCell ⟨g, q, none⟩ (.int .i64 ((x + ((p : Int) - f) * y) % p)))) := hB2.out.setCell hgB _
          clear hx hy hq cf m2
          go_wp2
          go_region
          go_wp2
          go_roundw
          case rel => exact ⟨k + 1, by omega, by go_num, S0, SB.out.drew⟩
          case measure => simp [intOf]; omega
        · obtain rfl : k = d + 1 := by omega
          have B0 : Hid (Ints wr B (.slice (some ⟨g, 0, none⟩) L cap) (vec L (stp p b d t c'))) := by rw [← stpK_all]; exact hI2
          go_wp2
          go_roundw
          case rel => exact ⟨n, by have := HM.out; omega, by rw [if_neg hLd]; have := HT.out; go_num, stp p b d t c', HR2, HE2, B0, hB2⟩
          case measure => simp only [intOf]; have := HT.out; omega
end Go.Proofs.Ytmlcdbjibngnkaa
