/- Draws of congruences, and the law of Chinese remainders. -/
import Derived.Test.YtninajgnmogmeaaDraw
namespace Go.Proofs.Ytninajgnmogmeaa
open Go.RowKit
set_option linter.unusedVariables false

theorem drawRes (w : World) (p : Nat) (k m : Int) (hs : Src w p k) (hk : k ≤ 100000000) (m0 : -5 ≤ m) (m1 : m ≤ 1001) :
    Calls Try.prog 66 #[.pointer (some ⟨p, 0, none⟩), .int .i64 m] w fun e w' => ∃ v : Int, e = .returned (.int .i64 v) ∧ (-5 ≤ v ∧ v ≤ 1002) ∧ DrawOut w p (k + 4) w' := by
  have HS := Lib.hid hs
  clear hs
  go_enter Try.func66, Try.ntmps66
  go_wp2_with fail
  refine (one_any _ p k 10 HS.out (by omega) (by omega)).mono ?_
  rintro e w1 ⟨b, rfl, o1⟩
  have O1 := Lib.hid o1.draw
  clear o1
  have hp1 := O1.out.1.lt
  cases b
  · by_cases h1 : 1 < m
    · go_wp2_with (go_at_call 78; go_in)
      refine (pick_any _ p (k + 2) m O1.out.1 (by omega) (by omega)).mono ?_
      rintro e w2 ⟨u, rfl, ⟨u0, u1, _⟩, o2⟩
      have hu := u1 h1
      have O2 := Lib.hid (O1.out.trans o2.draw)
      clear o2 u1
      go_wp2
      go_ret
      exact ⟨_, rfl, ⟨by omega, by omega⟩, O2.out.mono (by omega)⟩
    · go_wp2_with (go_at_call 78; go_in)
      refine (pick_any _ p (k + 2) 1 O1.out.1 (by omega) (by omega)).mono ?_
      rintro e w2 ⟨u, rfl, ⟨u0, _, u1⟩, o2⟩
      have hu := u1 (by omega)
      subst hu
      have O2 := Lib.hid (O1.out.trans o2.draw)
      clear o2 u1
      go_wp2
      go_ret
      exact ⟨_, rfl, ⟨by omega, by omega⟩, O2.out.mono (by omega)⟩
  · go_wp2_with fail
    refine (among_any _ p (k + 2) (O1.out.1.alloc _) (by omega) _ [-1, m, m + 1] (lit_ints w1 [-1, m, m + 1] _ (by simp)) (by simp) (by simp) (fun b hb => by simp [Value.ownBlock] at hb; omega)).mono ?_
    rintro e w2 ⟨u, rfl, hu, o2⟩
    have hr : -5 ≤ u ∧ u ≤ 1002 := by simp at hu; omega
    have O2 := Lib.hid ((O1.out.alloc _).trans o2.draw)
    clear o2 hu
    go_wp2
    go_ret
    exact ⟨u, rfl, hr, O2.out.mono (by omega)⟩

/-- A source is begun over the bytes that a law is given. -/
theorem from_any (w : World) (a : Option Addr) (len cap : Nat) (zs : List Int) (h : IsRow .u8 w a len cap zs) (hl : len ≤ 1048576) :
    Calls Try.prog 64 #[.slice a len cap] w fun e w' => e = .returned (.pointer (some ⟨w.heap.size, 0, none⟩)) ∧ Src w' w.heap.size 0 ∧ Below w.heap.size w w' := by
  have hB : BytesAt w w.heap.size a len := by
    intro i hi
    rcases h with ⟨rfl, rfl, _, _⟩ | ⟨⟨b, off, spot⟩, rfl, h1, h2, h3, h4, h5⟩
    · omega
    · have hc := h4 0 (by omega)
      have hspot : spot = none := by simpa [Addr.add] using World.cell?_spot hc
      subst hspot
      have hci := h4 i (by omega)
      rw [show (⟨b, off, none⟩ : Addr).add i = ⟨b, off + i, none⟩ by unfold Addr.add; split <;> simp_all] at hci
      have hm : zs.getD i 0 ∈ zs := by
        rw [List.getD_eq_getElem?_getD, List.getElem?_eq_getElem (by omega)]
        exact List.getElem_mem _
      have hw := h5 _ hm
      have hr : 0 ≤ zs.getD i 0 ∧ zs.getD i 0 ≤ 255 := by simpa [Lit.wf, IntKind.min, IntKind.max, IntKind.signed, IntKind.bits] using hw
      refine ⟨b, off, rfl, World.block_lt_of_cell? w _ hci, (zs.getD i 0).toNat, by omega, ?_⟩
      rw [hci]
      congr 2
      omega
  have HB := Lib.hid hB
  clear h hB
  go_enter Try.func64, Try.ntmps64
  go_wp2
  go_ret
  refine ⟨rfl, ⟨a, len, cap, 0, 0, heap_alloc_new w _, by omega, by omega, hl, fun i hi => ?_⟩, (Below.refl _ _).alloc (Nat.le_refl _) _⟩
  obtain ⟨g, off, ha, hg, b, hb1, cb⟩ := HB.out i hi
  refine ⟨g, off, ha, hg, b, hb1, ?_⟩
  rw [← cb]
  exact World.cell?_of_block (a := ⟨g, off + i, none⟩) (Below.heap_alloc _ _ _ hg)

/-- What DrawSolveChinese answers. -/
def ChDraw (a m b n : Int) : Prop := (-5 ≤ a ∧ a ≤ 1002) ∧ (-5 ≤ m ∧ m ≤ 1001) ∧ (-5 ≤ b ∧ b ≤ 1002) ∧ (-5 ≤ n ∧ n ≤ 1001)

set_option maxHeartbeats 800000 in
theorem drawChinese (w : World) (a : Option Addr) (len cap : Nat) (zs : List Int) (h : IsRow .u8 w a len cap zs) (hl : len ≤ 1048576) :
    Calls Try.prog 44 #[.slice a len cap] w fun e w' => ∃ x m y n : Int, e = .returned (.tuple #[.int .i64 x, .int .i64 m, .int .i64 y, .int .i64 n]) ∧ ChDraw x m y n ∧ Below w.heap.size w w' := by
  have H := Lib.hid h
  clear h
  go_enter Try.func44, Try.ntmps44
  go_wp2_with fail
  refine (from_any _ a len cap zs H.out hl).mono ?_
  rintro e w1 ⟨rfl, s1, b1⟩
  obtain ⟨p, hp⟩ : ∃ p, w.heap.size = p := ⟨_, rfl⟩
  rw [hp] at s1 b1 ⊢
  have B1 := Lib.hid b1
  have O1 := Lib.hid (DrawOut.refl s1)
  have hp' : p ≤ w1.heap.size := Nat.le_of_lt s1.lt
  have HE := Lib.hid hp
  clear s1 b1 hp
  go_wp2_with fail
  refine (drawMod _ p 0 O1.out.1 (by omega)).mono ?_
  rintro e w2 ⟨m, rfl, ⟨m0, m1⟩, o2⟩
  have O2 := Lib.hid (O1.out.trans o2)
  clear o2
  go_wp2_with fail
  refine (drawMod _ p (0 + 4) O2.out.1 (by omega)).mono ?_
  rintro e w3 ⟨n, rfl, ⟨n0, n1⟩, o3⟩
  have O3 := Lib.hid (O2.out.trans o3)
  clear o3
  go_wp2_with fail
  refine (drawRes _ p (0 + 4 + 4) m O3.out.1 (by omega) m0 m1).mono ?_
  rintro e w4 ⟨x, rfl, ⟨x0, x1⟩, o4⟩
  have O4 := Lib.hid (O3.out.trans o4)
  clear o4
  go_wp2_with fail
  refine (drawRes _ p (0 + 4 + 4 + 4) n O4.out.1 (by omega) n0 n1).mono ?_
  rintro e w5 ⟨y, rfl, ⟨y0, y1⟩, o5⟩
  have O5 := Lib.hid (O4.out.trans o5)
  clear o5
  go_wp2_with fail
  refine (one_any _ p (0 + 4 + 4 + 4 + 4) 2 O5.out.1 (by omega) (by omega)).mono ?_
  rintro e w6 ⟨c, rfl, o6⟩
  have O6 := Lib.hid (O5.out.trans o6.draw)
  clear o6
  have VN := Lib.hid (show ChDraw x m y n from ⟨⟨x0, x1⟩, ⟨m0, m1⟩, ⟨y0, y1⟩, ⟨n0, n1⟩⟩)
  have VN2 := Lib.hid (B1.out.trans (O6.out.below hp'))
  cases c
  · go_wp2
    exact bodyPost_ret (v := .tuple #[.int .i64 x, .int .i64 m, .int .i64 y, .int .i64 n]) (by simp [results, Try.results44, go_sem]) rfl ⟨x, m, y, n, rfl, VN.out, by rw [HE.out]; exact VN2.out⟩
  · by_cases hm : 1 ≤ m ∧ m ≤ 1000
    · obtain ⟨e1, e2⟩ := hm
      by_cases hn : 1 ≤ n ∧ n ≤ 1000
      · obtain ⟨f1, f2⟩ := hn
        have z1 : ¬ m = 0 := by omega
        have z2 : ¬ n = 0 := by omega
        go_wp2_with (first | (go_at_call 63; (with_reducible refine (smod_yes m _ e1 e2).mono ?_); rintro e w' ⟨rfl, rfl⟩) | (go_at_call 63; (with_reducible refine (smod_yes n _ f1 f2).mono ?_); rintro e w' ⟨rfl, rfl⟩))
        refine (pick_any _ p (0 + 4 + 4 + 4 + 4 + 2) 1000 O6.out.1 (by omega) (by omega)).mono ?_
        rintro e w7 ⟨u, rfl, ⟨u0, u1, _⟩, o7⟩
        have hu := u1 (by omega)
        have O7 := Lib.hid (B1.out.trans ((O6.out.trans o7.draw).below hp'))
        have g0 : 0 ≤ u * 17 := by omega
        have g1 : u * 17 ≤ 17000 := by omega
        have q0 := Int.emod_nonneg (u * 17) z1
        have q1 := Int.emod_lt_of_pos (u * 17) (show 0 < m by omega)
        have q2 := Int.emod_nonneg (u * 17) z2
        have q3 := Int.emod_lt_of_pos (u * 17) (show 0 < n by omega)
        have V2 := Lib.hid (show ChDraw (u * 17 % m) m (u * 17 % n) n from ⟨⟨by omega, by omega⟩, ⟨m0, m1⟩, ⟨by omega, by omega⟩, ⟨n0, n1⟩⟩)
        clear o7 u1 q0 q1 q2 q3
        go_wp2
        go_quiet (fail)
        go_wp2
        exact bodyPost_ret (v := .tuple #[.int .i64 (u * 17 % m), .int .i64 m, .int .i64 (u * 17 % n), .int .i64 n]) (by simp [results, Try.results44, go_sem]) rfl ⟨_, _, _, _, rfl, V2.out, by rw [HE.out]; exact below_drewN O7.out _⟩
      · have hn' := Lib.hid (show n < 1 ∨ 1000 < n by omega)
        clear hn
        go_wp2_with (first | (go_at_call 63; (with_reducible refine (smod_yes m _ e1 e2).mono ?_); rintro e w' ⟨rfl, rfl⟩) | (go_at_call 63; (with_reducible refine (smod_no n _ hn'.out).mono ?_); rintro e w' ⟨rfl, rfl⟩))
        exact bodyPost_ret (v := .tuple #[.int .i64 x, .int .i64 m, .int .i64 y, .int .i64 n]) (by simp [results, Try.results44, go_sem]) rfl ⟨x, m, y, n, rfl, VN.out, by rw [HE.out]; exact VN2.out⟩
    · have hm' := Lib.hid (show m < 1 ∨ 1000 < m by omega)
      clear hm
      go_wp2_with (go_at_call 63; (with_reducible refine (smod_no m _ hm'.out).mono ?_); rintro e w' ⟨rfl, rfl⟩)
      exact bodyPost_ret (v := .tuple #[.int .i64 x, .int .i64 m, .int .i64 y, .int .i64 n]) (by simp [results, Try.results44, go_sem]) rfl ⟨x, m, y, n, rfl, VN.out, by rw [HE.out]; exact VN2.out⟩

theorem ch_law (a m b n x all c : Int) (h : IsRes a m ∧ IsRes b n) (hv : chVal a m b n x all c) :
    ((b - a) % Int.gcd m n = 0 ∧ c = 0 ∧ 0 ≤ x ∧ x < all ∧ all ≤ 1000000 ∧ all * Int.gcd m n = m * n ∧ x % m = a ∧ x % n = b) ∨ (¬ (b - a) % Int.gcd m n = 0 ∧ c = 3) := by
  rcases hv with ⟨k, _⟩ | ⟨_, ⟨h1, h2, h3, h4, h5⟩, rfl⟩ | ⟨_, k, _, _, rfl⟩
  · exact absurd h k
  · left
    obtain ⟨M, N, e1, e2, e3, e4, _⟩ := div_gcd m n h.1.1 h.2.1
    have hb := (all_bd m n h.1.1 h.1.2.1 h.2.1 h.2.2.1).2.2.2
    refine ⟨ch_no a m b n x h4 h5, rfl, h1, h2, by omega, ?_, h4, h5⟩
    rw [h3, e3]
    conv => rhs; rw [e1]
    grind
  · exact .inr ⟨k, rfl⟩

theorem neg_zero (x y G : Int) (hG : 1 ≤ G) : (y - x) % G = 0 ↔ (x - y).tmod G = 0 := by
  rw [tmod_zero (x - y) G hG, ← Int.dvd_iff_emod_eq_zero, ← Int.dvd_iff_emod_eq_zero, show y - x = -(x - y) by omega, Int.dvd_neg]

set_option maxHeartbeats 3200000 in
theorem law_FnChinese (a : Option Addr) (len cap : Nat) (zs : List Int) (w : World) (h : IsRow .u8 w a len cap zs) :
    Calls Try.prog 14 #[.slice a len cap] w fun r w' => r = .returned (.bool true) ∧ Below w.heap.size w w' := by
  by_cases hbig : 1048576 < len
  · have hb : (1048576 : Int) < (len : Int) := by omega
    clear h
    go_enter Try.func14, Try.ntmps14
    go_wp2_with (go_at_call 43; go_in)
    go_ret
    exact ⟨rfl, Below.refl _ _⟩
  have hb : ¬ (1048576 : Int) < (len : Int) := by omega
  have H := Lib.hid h
  have hl : len ≤ 1048576 := by omega
  clear h hbig
  go_enter Try.func14, Try.ntmps14
  go_wp2_with (go_at_call 43; go_in)
  refine (drawChinese _ a len cap zs H.out hl).mono ?_
  rintro e w1 ⟨x, m, y, n, rfl, ⟨⟨x0, x1⟩, ⟨m0, m1⟩, ⟨y0, y1⟩, ⟨n0, n1⟩⟩, b1⟩
  have B1 := Lib.hid b1
  clear b1
  go_wp2_with fail
  refine (ichin x m y n _).mono ?_
  rintro e w2 ⟨u, all, c, rfl, hv, d, rfl⟩
  have HV := Lib.hid hv
  clear hv
  by_cases hr : IsRes x m ∧ IsRes y n
  · obtain ⟨⟨r1, r2, r3, r4⟩, ⟨s1, s2, s3, s4⟩⟩ := hr
    have L := Lib.hid (ch_law x m y n u all c ⟨⟨r1, r2, r3, r4⟩, ⟨s1, s2, s3, s4⟩⟩ HV.out)
    have ⟨g1, g2⟩ := gcd_pos' m n r1
    obtain ⟨G, hG⟩ : ∃ G : Int, (Int.gcd m n : Int) = G := ⟨_, rfl⟩
    have K := Lib.hid (fun W => (igcd m n W).mono fun e w' (hh : e = .returned (.int .i64 (gcdOf m n)) ∧ ∃ n, w' = W.drewN n) => (show e = .returned (.int .i64 G) ∧ ∃ n, w' = W.drewN n from ⟨by rw [hh.1, gcdOf_in (show GcdIn m n by unfold GcdIn; omega), hG], hh.2⟩))
    rw [hG] at g1 g2 L
    clear hG
    rcases L.out with ⟨l1, rfl, l3, l4, l5, l6, l7, l8⟩ | ⟨l1, rfl⟩
    · have hT : ((x - y).tmod G != 0) = false := by simpa using (neg_zero x y G g1).1 l1
      have t1 : (all * G == m * n) = true := by simpa using l6
      have t2 : (u % m == x) = true := by simpa using l7
      have t3 : (u % n == y) = true := by simpa using l8
      have p0 : 0 ≤ m * n := Int.mul_nonneg (by omega) (by omega)
      have p1 : m * n ≤ 1000 * 1000 := by
        have h1 : m * n ≤ 1000 * n := Int.mul_le_mul_of_nonneg_right (by omega) (by omega)
        omega
      have p2 : 0 ≤ all * G := by omega
      have p3 : all * G ≤ 1000 * 1000 := by omega
      have z1 : ¬ m = 0 := by omega
      have z2 : ¬ n = 0 := by omega
      have z3 : ¬ G = 0 := by omega
      clear l1 l6 l7 l8 L HV
      go_wp2_with (go_at_call 19; refine (K.out _).mono ?_; rintro e w' ⟨rfl, d2, rfl⟩)
      go_ret
      exact ⟨rfl, below_drewN B1.out _⟩
    · have hT : ((x - y).tmod G != 0) = true := by simp; rw [← neg_zero x y G g1]; exact l1
      have z3 : ¬ G = 0 := by omega
      clear l1 L HV
      go_wp2_with (go_at_call 19; refine (K.out _).mono ?_; rintro e w' ⟨rfl, d2, rfl⟩)
      go_ret
      exact ⟨rfl, below_drewN B1.out _⟩
  · have hc : c = 2 := by
      rcases HV.out with ⟨_, _, _, h⟩ | ⟨h, _⟩ | ⟨h, _⟩
      · exact h
      · exact absurd h hr
      · exact absurd h hr
    subst hc
    have hr' : m < 1 ∨ (¬ m < 1 ∧ 1000 < m) ∨ (¬ m < 1 ∧ ¬ 1000 < m ∧ n < 1) ∨ (¬ m < 1 ∧ ¬ 1000 < m ∧ ¬ n < 1 ∧ 1000 < n) ∨ (¬ m < 1 ∧ ¬ 1000 < m ∧ ¬ n < 1 ∧ ¬ 1000 < n ∧ x < 0) ∨
        (¬ m < 1 ∧ ¬ 1000 < m ∧ ¬ n < 1 ∧ ¬ 1000 < n ∧ ¬ x < 0 ∧ m ≤ x) ∨ (¬ m < 1 ∧ ¬ 1000 < m ∧ ¬ n < 1 ∧ ¬ 1000 < n ∧ ¬ x < 0 ∧ ¬ m ≤ x ∧ y < 0) ∨ (¬ m < 1 ∧ ¬ 1000 < m ∧ ¬ n < 1 ∧ ¬ 1000 < n ∧ ¬ x < 0 ∧ ¬ m ≤ x ∧ ¬ y < 0 ∧ n ≤ y) := by
      unfold IsRes at hr; omega
    clear hr HV
    rcases hr' with h1 | ⟨h1, h2⟩ | ⟨h1, h2, h3⟩ | ⟨h1, h2, h3, h4⟩ | ⟨h1, h2, h3, h4, h5⟩ | ⟨h1, h2, h3, h4, h5, h6⟩ | ⟨h1, h2, h3, h4, h5, h6, h7⟩ | ⟨h1, h2, h3, h4, h5, h6, h7, h8⟩
    all_goals
      go_wp2
      go_ret
      exact ⟨rfl, below_drewN B1.out _⟩
end Go.Proofs.Ytninajgnmogmeaa
