/- Draws of numbers with many factors; what is known of the list of prime factors. -/
import Derived.Test.YtocjdjgfadaljaaDraw2
import Derived.Test.YtocjdjgfadaljaaPp
namespace Go.Proofs.Ytocjdjgfadaljaa
open Go.RowKit
set_option linter.unusedVariables false

set_option maxHeartbeats 1600000 in
theorem drawNum (w : World) (p : Nat) (k : Int) (hs : Src w p k) (hk : k ≤ 100000000) :
    Calls Try.prog 37 #[.pointer (some ⟨p, 0, none⟩)] w fun e w' => ∃ v : Int, e = .returned (.int .i64 v) ∧ DrawOut w p (k + 20) w' := by
  have HS := Lib.hid hs
  clear hs
  go_enter Try.func37, Try.ntmps37
  go_wp2_with fail
  refine (pick_any _ p k 6 HS.out (by omega) (by omega)).mono ?_
  rintro e w1 ⟨v, rfl, ⟨v0, v1, _⟩, o1⟩
  have hv := v1 (by omega)
  have O1 := Lib.hid o1.draw
  clear o1 v1
  have hp1 := O1.out.1.lt
  by_cases e0 : v = 0
  · subst e0
    go_wp2_with fail
    refine (among_any _ p (k + 2) (O1.out.1.alloc _) (by omega) _ [0, 1, -1, 1000000, 1000001, 999983, 524288, 531441, 4] (lit_ints w1 [0, 1, -1, 1000000, 1000001, 999983, 524288, 531441, 4] _ (by decide)) (by decide) (by decide) (fun b hb => by simp [Value.ownBlock] at hb; omega)).mono ?_
    rintro e w2 ⟨u, rfl, hu, o2⟩
    have O2 := Lib.hid ((O1.out.alloc _).trans o2.draw)
    clear o2 hu
    go_wp2
    go_ret
    exact ⟨u, rfl, O2.out.mono (by omega)⟩
  · have t0 : (v == 0) = false := by simpa using e0
    by_cases e1 : v = 1
    · subst e1
      clear e0 t0
      go_wp2_with fail
      refine (pick_any _ p (k + 2) 6 O1.out.1 (by omega) (by omega)).mono ?_
      rintro e w2 ⟨c, rfl, ⟨c0, c1, _⟩, o2⟩
      have hc := c1 (by omega)
      have O2 := Lib.hid (O1.out.trans o2.draw)
      clear o2 c1
      go_wp2_with fail
      go_loopw [3, 4] (fun n c wr => ∃ x y M : Int, n = .int .i64 x ∧ c = .int .i64 y ∧ 0 ≤ y ∧ y ≤ 5 ∧ M + 2 * y ≤ k + 14 ∧ Hid (DrawOut w p M wr)) (fun _ c _ => (intOf c).toNat)
      case atStart => exact ⟨1, c, k + 2 + 2, rfl, rfl, c0, by omega, by omega, O2⟩
      case round =>
        obtain ⟨x, y, M, rfl, rfl, y0, y1, hM, hO⟩ := hrel
        by_cases hy : 0 < y
        · go_wp2_with fail
          refine (among_any _ p M (hO.out.1.alloc _) (by omega) _ [2, 3, 5, 7] (lit_ints wr [2, 3, 5, 7] _ (by decide)) (by decide) (by decide) (fun b hb => by simp [Value.ownBlock] at hb; have := hO.out.1.lt; omega)).mono ?_
          rintro e w3 ⟨u, rfl, hu, o3⟩
          have O3 := Lib.hid ((hO.out.alloc _).trans o3.draw)
          clear o3 hu
          go_wp2
          go_roundw
          case rel => exact ⟨_, y - 1, M + 2, rfl, rfl, by omega, by omega, by omega, O3⟩
          case measure => simp only [intOf]; omega
        · go_wp2
          go_ret
          exact ⟨⟨x, rfl⟩, hO.out.mono (by omega)⟩
    · have t1 : (v == 1) = false := by simpa using e1
      by_cases e2 : v = 2
      · subst e2
        clear e0 e1 t0 t1
        go_wp2_with fail
        refine (among_any _ p (k + 2) (O1.out.1.alloc _) (by omega) _ [2, 3, 5, 7, 11] (lit_ints w1 [2, 3, 5, 7, 11] _ (by decide)) (by decide) (by decide) (fun b hb => by simp [Value.ownBlock] at hb; omega)).mono ?_
        rintro e w2 ⟨q, rfl, hq, o2⟩
        have O2 := Lib.hid ((O1.out.alloc _).trans o2.draw)
        clear o2 hq
        go_wp2_with fail
        refine (pick_any _ p (k + 2 + 2) 4 O2.out.1 (by omega) (by omega)).mono ?_
        rintro e w3 ⟨c, rfl, ⟨c0, c1, _⟩, o3⟩
        have hc := c1 (by omega)
        have O3 := Lib.hid (O2.out.trans o3.draw)
        clear o3 c1
        go_wp2_with fail
        go_loop [6, 7] (fun n c => ∃ x y : Int, n = .int .i64 x ∧ c = .int .i64 y ∧ 0 ≤ y ∧ y ≤ 5) (fun _ c => (intOf c).toNat)
        case atStart => exact ⟨q, c, rfl, rfl, c0, by omega⟩
        case round =>
          obtain ⟨x, y, rfl, rfl, y0, y1⟩ := hrel
          by_cases hy : 0 < y
          · go_wp2
            go_round
            case rel => exact ⟨_, y - 1, rfl, rfl, by omega, by omega⟩
            case measure => simp only [intOf]; omega
          · go_wp2
            go_ret
            exact ⟨⟨x, rfl⟩, O3.out.mono (by omega)⟩
      · have t2 : (v == 2) = false := by simpa using e2
        by_cases e3 : v = 3
        · subst e3
          clear e0 e1 e2 t0 t1 t2
          go_wp2_with fail
          refine (pick_any _ p (k + 2) 1000 O1.out.1 (by omega) (by omega)).mono ?_
          rintro e w2 ⟨u, rfl, ⟨u0, u1, _⟩, o2⟩
          have hu := u1 (by omega)
          have O2 := Lib.hid (O1.out.trans o2.draw)
          clear o2 u1
          go_wp2_with fail
          refine (pick_any _ p (k + 2 + 2) 1000 O2.out.1 (by omega) (by omega)).mono ?_
          rintro e w3 ⟨t, rfl, _, o3⟩
          have O3 := Lib.hid (O2.out.trans o3.draw)
          clear o3
          go_wp2
          go_ret
          exact ⟨_, rfl, O3.out.mono (by omega)⟩
        · have t3 : (v == 3) = false := by simpa using e3
          clear e0 e1 e2 e3
          go_wp2_with fail
          refine (pick_any _ p (k + 2) 130 O1.out.1 (by omega) (by omega)).mono ?_
          rintro e w2 ⟨u, rfl, _, o2⟩
          have O2 := Lib.hid (O1.out.trans o2.draw)
          clear o2
          go_wp2
          go_ret
          exact ⟨_, rfl, O2.out.mono (by omega)⟩

theorem drawFactors (w : World) (a : Option Addr) (len cap : Nat) (zs : List Int) (h : IsRow .u8 w a len cap zs) (hl : len ≤ 1048576) :
    Calls Try.prog 17 #[.slice a len cap] w fun e w' => ∃ v : Int, e = .returned (.int .i64 v) ∧ Below w.heap.size w w' := by
  have H := Lib.hid h
  clear h
  go_enter Try.func17, Try.ntmps17
  go_wp2_with fail
  refine (from_any _ a len cap zs H.out hl).mono ?_
  rintro e w1 ⟨rfl, s1, b1⟩
  obtain ⟨p, hp⟩ : ∃ p, w.heap.size = p := ⟨_, rfl⟩
  rw [hp] at s1 b1 ⊢
  have B1 := Lib.hid b1
  have O1 := Lib.hid (DrawOut.refl s1)
  have hp' : p ≤ w1.heap.size := Nat.le_of_lt s1.lt
  have HE := Lib.hid hp
  clear s1 b1 hp
  go_wp2_with fail
  refine (drawNum _ p 0 O1.out.1 (by omega)).mono ?_
  rintro e w2 ⟨v, rfl, o2⟩
  have O2 := Lib.hid (B1.out.trans ((O1.out.trans o2).below hp'))
  clear o2
  go_wp2
  go_ret
  exact ⟨v, rfl, by rw [HE.out]; exact O2.out⟩

/-! ### The list of prime factors -/
theorem IsMin.pr {n d : Nat} (h : IsMin n d) : Pr d := ⟨h.1, Nat.dvd_refl d, fun e e1 e2 e3 => h.2.2 e e1 e2 (Nat.dvd_trans e3 h.2.1)⟩
def prd (xs : List Nat) : Nat := xs.foldr (· * ·) 1
theorem prd_append (xs ys : List Nat) : prd (xs ++ ys) = prd xs * prd ys := by
  induction xs with
  | nil => simp [prd]
  | cons x xs ih => show x * prd (xs ++ ys) = x * prd xs * prd ys; rw [ih, Nat.mul_assoc]
theorem Fac.pos {n : Nat} {xs : List Nat} (h : Fac n xs) : 1 ≤ n := by cases h <;> omega
theorem Fac.all {n : Nat} {xs : List Nat} (h : Fac n xs) : prd xs = n ∧ ∀ x ∈ xs, Pr x := by
  induction h with
  | one => exact ⟨rfl, fun x hx => by simp at hx⟩
  | @step n d xs h1 h2 h3 ih =>
    obtain ⟨_, _, a3⟩ := div_pos' h1 h2.1 h2.2.1
    refine ⟨by show d * prd xs = n; rw [ih.1]; exact a3.symm, fun x hx => ?_⟩
    rcases List.mem_cons.1 hx with rfl | hx
    · exact h2.pr
    · exact ih.2 x hx
theorem Fac.head {n d : Nat} {xs : List Nat} (h : Fac n (d :: xs)) : IsMin n d := by
  cases h with
  | step _ k _ => exact k
theorem Fac.rise {n : Nat} {xs : List Nat} (h : Fac n xs) : ∀ i, (hi : i + 1 < xs.length) → xs[i] ≤ xs[i + 1] := by
  induction h with
  | one => intro i hi; simp at hi
  | @step n d xs h1 h2 h3 ih =>
    intro i hi
    cases i with
    | zero =>
      cases xs with
      | nil => simp at hi
      | cons e ys =>
        have k2 := h3.head
        show d ≤ e
        by_cases l : e < d
        · exact absurd (Nat.dvd_trans k2.2.1 (Nat.div_dvd_of_dvd h2.2.1)) (h2.2.2 e k2.1 l)
        · omega
    | succ i => exact ih i (by simpa using hi)
theorem Fac.part {n : Nat} {xs : List Nat} (h : Fac n xs) (i : Nat) (hi : i ≤ xs.length) : 1 ≤ prd (xs.take i) ∧ prd (xs.take i) ≤ n := by
  have e : prd (xs.take i) * prd (xs.drop i) = n := by rw [← prd_append, List.take_append_drop]; exact h.all.1
  have hp := h.pos
  have d1 : 1 ≤ prd (xs.drop i) := by
    by_cases z : prd (xs.drop i) = 0
    · rw [z] at e; omega
    · omega
  have d2 : 1 ≤ prd (xs.take i) := by
    by_cases z : prd (xs.take i) = 0
    · rw [z] at e; omega
    · omega
  have : prd (xs.take i) * 1 ≤ prd (xs.take i) * prd (xs.drop i) := Nat.mul_le_mul_left _ d1
  omega
theorem prd_snoc (xs : List Nat) (i : Nat) (h : i < xs.length) : prd (xs.take (i + 1)) = prd (xs.take i) * xs[i] := by
  rw [List.take_succ_eq_append_getElem h, prd_append]
  simp [prd]
end Go.Proofs.Ytocjdjgfadaljaa
