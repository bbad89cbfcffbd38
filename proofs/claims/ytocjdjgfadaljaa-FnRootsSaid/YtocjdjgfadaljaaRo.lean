/- The law of primitive roots and squares. -/
import Derived.Test.YtocjdjgfadaljaaRm
import Derived.Test.YtocjdjgfadaljaaDrawN
import Derived.Test.YtocjdjgfadaljaaNs
import Derived.OpenShut
namespace Go.Proofs.Ytocjdjgfadaljaa
open Go.RowKit
set_option linter.unusedVariables false

theorem drawRoot (w : World) (a : Option Addr) (len cap : Nat) (zs : List Int) (h : IsRow .u8 w a len cap zs) (hl : len ≤ 1048576) :
    Calls Try.prog 10 #[.slice a len cap] w fun e w' => ∃ v : Int, e = .returned (.int .i64 v) ∧ Below w.heap.size w w' := by
  have H := Lib.hid h
  clear h
  go_enter Try.func10, Try.ntmps10
  go_wp2_with fail
  refine (from_any _ a len cap zs H.out hl).mono ?_
  rintro e w1 ⟨rfl, s1, b1⟩
  obtain ⟨p, hp⟩ : ∃ p, w.heap.size = p := ⟨_, rfl⟩
  rw [hp] at s1 b1 ⊢
  have B1 := Lib.hid b1
  have O1 := Lib.hid (DrawOut.refl s1)
  have hp' : p ≤ w1.heap.size := Nat.le_of_lt s1.lt
  have HE := Lib.hid hp
  clear s1 b1 hp
  go_wp2_with fail
  refine (one_any _ p 0 3 O1.out.1 (by omega) (by omega)).mono ?_
  rintro e w2 ⟨b, rfl, o2⟩
  have O2 := Lib.hid (O1.out.trans o2.draw)
  have hp2 := O2.out.1.lt
  clear o2
  cases b
  · go_wp2_with fail
    refine (among_any _ p (0 + 2) (O2.out.1.alloc _) (by omega) _ [2, 3, 5, 7, 11, 13, 17, 19, 23, 29, 31, 41, 71, 191, 997, 1009, 9, 1] (lit_ints w2 [2, 3, 5, 7, 11, 13, 17, 19, 23, 29, 31, 41, 71, 191, 997, 1009, 9, 1] _ (by decide)) (by decide) (by decide) (fun b hb => by simp [Value.ownBlock] at hb; omega)).mono ?_
    rintro e w3 ⟨u, rfl, _, o3⟩
    have O3 := Lib.hid (B1.out.trans (((O2.out.alloc _).trans o3.draw).below hp'))
    clear o3
    go_wp2
    go_ret
    exact ⟨u, rfl, by rw [HE.out]; exact O3.out⟩
  · go_wp2_with fail
    refine (drawNum _ p (0 + 2) O2.out.1 (by omega)).mono ?_
    rintro e w3 ⟨u, rfl, o3⟩
    have O3 := Lib.hid (B1.out.trans ((O2.out.trans o3).below hp'))
    clear o3
    go_wp2
    go_ret
    exact ⟨u, rfl, by rw [HE.out]; exact O3.out⟩

/-- A number below n, out of the bytes. -/
theorem b10_at (w : World) (a : Option Addr) (len cap : Nat) (zs : List Int) (h : IsRow .u8 w a len cap zs) (i n : Int) (hi : i = 0 ∨ i = 1) (hn : 1 ≤ n) (hn2 : n ≤ 1000000) :
    Calls Try.prog 16 #[.slice a len cap, .int .i64 i, .int .i64 n] w fun e w' => ∃ v : Nat, e = .returned (.int .i64 v) ∧ (v : Int) < n ∧ w = w' := by
  by_cases h1 : n ≤ 1
  · obtain rfl : n = 1 := by omega
    clear h
    go_enter Try.func16, Try.ntmps16
    go_wp2
    go_ret
    exact ⟨0, rfl, by omega, rfl⟩
  · have g1 : decide (n ≤ 1) = false := by simpa using h1
    by_cases h2 : i < (len : Int)
    · obtain ⟨k, rfl⟩ : ∃ k : Nat, i = k := ⟨i.toNat, by omega⟩
      rcases h with ⟨rfl, rfl, rfl, rfl⟩ | ⟨⟨g, off, spot⟩, rfl, h3, h4, h5, h6, h7⟩
      · omega
      · obtain ⟨x, hx⟩ : ∃ x, zs.getD k 0 = x := ⟨_, rfl⟩
        have c := h6 k (by omega)
        have x01 : 0 ≤ x ∧ x ≤ 255 := by
          have hm : x ∈ zs := by rw [← hx, show zs.getD k 0 = zs[k]'(by omega) by simp [List.getD, List.getElem?_eq_getElem (show k < zs.length by omega)]]; exact List.getElem_mem _
          exact bounds_u8 (h7 x hm)
        rw [hx] at c
        have e : ∃ v : Nat, x.tmod n = (v : Int) ∧ (v : Int) < n := by
          refine ⟨(x % n).toNat, ?_, ?_⟩
          · rw [Int.tmod_eq_emod_of_nonneg x01.1]; have := Int.emod_nonneg x (show n ≠ 0 by omega); omega
          · have := Int.emod_nonneg x (show n ≠ 0 by omega); have := Int.emod_lt_of_pos x (show 0 < n by omega); omega
        obtain ⟨v, hv, hvn⟩ := e
        have wv := IntWalk.i64_in (v : Int) (by omega)
        have wx := IntWalk.i64_in x (by omega)
        have n0 : (n == 0) = false := by simp; omega
        have k0 : (0 : Int) ≤ (k : Int) := by omega
        have hspot : spot = none := by simpa [Addr.add] using World.cell?_spot (h6 0 (by omega))
        subst hspot
        rw [show (⟨g, off, none⟩ : Addr).add k = ⟨g, off + k, none⟩ by unfold Addr.add; split <;> simp_all] at c
        have HV := Lib.hid hvn
        clear h6 h7 hx hi hvn
        go_enter Try.func16, Try.ntmps16
        go_wp2
        go_ret
        exact ⟨v, by first | rfl | rw [hv], HV.out, rfl⟩
    · have g2 : decide (i < (len : Int)) = false := by simpa using h2
      have e : ∃ v : Nat, (i * 37 + 11).tmod n = (v : Int) ∧ (v : Int) < n := by
        refine ⟨((i * 37 + 11) % n).toNat, ?_, ?_⟩
        · rw [Int.tmod_eq_emod_of_nonneg (by omega)]; have := Int.emod_nonneg (i * 37 + 11) (show n ≠ 0 by omega); omega
        · have := Int.emod_nonneg (i * 37 + 11) (show n ≠ 0 by omega); have := Int.emod_lt_of_pos (i * 37 + 11) (show 0 < n by omega); omega
      obtain ⟨v, hv, hvn⟩ := e
      have wv := IntWalk.i64_in (v : Int) (by omega)
      have w1 := IntWalk.i64_in (i * 37) (by omega)
      have w2 := IntWalk.i64_in (i * 37 + 11) (by omega)
      have n0 : (n == 0) = false := by simp; omega
      have HV := Lib.hid hvn
      clear h hvn h2
      go_enter Try.func16, Try.ntmps16
      go_wp2
      go_ret
      exact ⟨v, by first | rfl | rw [hv], HV.out, rfl⟩

theorem IsRow.below {k : IntKind} {w w' : World} {a : Option Addr} {len cap B : Nat} {zs : List Int} (h : IsRow k w a len cap zs) (hb : Below B w w') (hs : w.heap.size ≤ B) : IsRow k w' a len cap zs := by
  rcases h with h | ⟨x, rfl, h3, h4, h5, h6, h7⟩
  · exact .inl h
  · refine .inr ⟨x, rfl, h3, h4, h5, fun i hi => ?_, h7⟩
    have c := h6 i hi
    have := World.block_lt_of_cell? w _ c
    exact (hb.cell (p := x.add i) (Nat.lt_of_lt_of_le this hs)).trans c

set_option maxHeartbeats 2000000 in
theorem law_FnRoots (a : Option Addr) (len cap : Nat) (zs : List Int) (b : Option Addr) (lenb capb : Nat) (ys : List Int) (w : World) (h : IsRow .u8 w a len cap zs) (h' : IsRow .u8 w b lenb capb ys) :
    Calls Try.prog 3 #[.slice a len cap, .slice b lenb capb] w fun r w' => r = .returned (.bool true) ∧ Below w.heap.size w w' := by
  by_cases hbig : 1048576 < len
  · have hb : (1048576 : Int) < (len : Int) := by omega
    clear h h'
    go_enter Try.func3, Try.ntmps3
    go_wp2_with (go_at_call 9; go_in)
    go_ret
    exact ⟨rfl, Below.refl _ _⟩
  have hb : ¬ (1048576 : Int) < (len : Int) := by omega
  by_cases hbig' : 1048576 < lenb
  · have hb' : (1048576 : Int) < (lenb : Int) := by omega
    clear h h'
    go_enter Try.func3, Try.ntmps3
    go_wp2_with (go_at_call 9; go_in)
    go_ret
    exact ⟨rfl, Below.refl _ _⟩
  have hb' : ¬ (1048576 : Int) < (lenb : Int) := by omega
  have H := Lib.hid h
  have H' := Lib.hid h'
  have hl : len ≤ 1048576 := by omega
  clear h h' hbig hbig'
  go_enter Try.func3, Try.ntmps3
  go_wp2_with (go_at_call 9; go_in)
  refine (drawRoot _ a len cap zs H.out hl).mono ?_
  rintro e w1 ⟨p, rfl, b1⟩
  have B1 := Lib.hid b1
  clear b1
  go_wp2_with fail
  refine (iroot p _).mono ?_
  rintro e w2 ⟨g, c, rfl, hv, b2⟩
  have B2 := Lib.hid (B1.out.trans (b2.mono B1.out.size))
  clear b2
  rcases hv with ⟨hp, p1000, hr, rfl⟩ | ⟨hn, rfl, rfl⟩
  · have KP := Lib.hid (fun W => by have := iprime p W; rw [hp] at this; exact this)
    have hlo : 2 ≤ p := by
      by_cases l : p < 2
      · rw [isPr_no (.inl l)] at hp; simp at hp
      · omega
    obtain ⟨n, rfl⟩ : ∃ n : Nat, p = n := ⟨p.toNat, by omega⟩
    have hpr := (isPr_nat n (by omega) (by omega)).1 hp
    obtain ⟨r1, r2, r3, -⟩ := hr
    have KO := Lib.hid (fun W => (iord g n W).mono fun e w' (hh : ∃ v c : Int, e = .returned (.tuple #[.int .i64 v, .int .i64 c]) ∧ ordVal g n v c ∧ ∃ n, w' = W.drewN n) => (show e = .returned (.tuple #[.int .i64 ((n : Int) - 1), .int .i64 0]) ∧ ∃ n, w' = W.drewN n by
      obtain ⟨v, c, he, hv | hv | hv, hw⟩ := hh
      · exact absurd ⟨by omega, by omega, by omega, r2⟩ hv.1
      · rw [he, IsOrd_unique hv.2.2.1 r3, hv.2.2.2]; exact ⟨rfl, hw⟩
      · exact absurd (ord_cop (by omega) (by omega) r3) hv.2.1))
    obtain ⟨g, rfl, R⟩ := Rtp.of hpr r1 r2 r3
    have t1 : ((n : Int) - 1 != (n : Int) - 1) = false := by simp
    have w1' := IntWalk.i64_in ((n : Int) - 1) (by omega)
    by_cases h2 : n = 2
    · have t2 : ((n : Int) == 2) = true := by simp; omega
      have t2' : (n == 2) = true := by simpa using h2
      clear hp hpr r1 r2 r3 R h2
      go_wp2_with fail
      refine (KP.out _).mono ?_
      rintro e w3 ⟨rfl, b3⟩
      have B3 := Lib.hid (B2.out.trans (b3.mono B2.out.size))
      clear b3
      go_wp2_with fail
      refine (KO.out _).mono ?_
      rintro e w4 ⟨rfl, d4, rfl⟩
      go_wp2
      go_ret
      exact ⟨rfl, below_drewN B3.out _⟩
    · have t2 : ((n : Int) == 2) = false := by simp; omega
      have t2' : (n == 2) = false := by simpa using h2
      have ho := hpr.odd h2
      have hlen := nsq_len hpr h2
      have eall : sqAll (n : Int) = (nsq n).map (fun a : Nat => (a : Int)) := by
        unfold sqAll; rw [if_pos (by omega), Int.toNat_natCast, sqs_nsq]
      obtain ⟨m, hm⟩ : ∃ m, (n - 1) / 2 = m := ⟨_, rfl⟩
      rw [hm] at hlen
      have hnm1 : n ≤ 2 * m + 1 := by omega
      have hnm2 : 2 * m + 1 ≤ n := by omega
      have m1 : 1 ≤ m := by have := hpr.1; omega
      have eq1 : ((n : Int) - 1).tdiv 2 = (m : Int) := by rw [Int.tdiv_eq_ediv_of_nonneg (by omega)]; omega
      have w2' := IntWalk.i64_in (m : Int) (by omega)
      have KQ := Lib.hid (fun W => isqAll (n : Int) W)
      rw [eall] at KQ
      have LQ : ((nsq n).map (fun a : Nat => (a : Int))).length = m := by rw [List.length_map, hlen]
      obtain ⟨qs, hqs⟩ : ∃ qs, (nsq n).map (fun a : Nat => (a : Int)) = qs := ⟨_, rfl⟩
      rw [hqs] at KQ LQ
      have QS : Hid (∀ i, i < m → ∃ x : Nat, qs.getD i 0 = x ∧ 1 ≤ x ∧ x < n ∧ Sqp n x) := fun i hi => by
        have hi' : i < (nsq n).length := by omega
        have mm := mem_nsq.1 (List.getElem_mem hi')
        refine ⟨(nsq n)[i], ?_, mm.2.1, mm.1, mm.2.2⟩
        rw [← hqs]; simp [List.getD, List.getElem?_eq_getElem hi']
      have IS : Hid (∀ (x : Nat) (bb : Bool), 1 ≤ x → x < n → (Sqp n x ↔ bb = true) → ∀ W, Calls Try.prog 15 #[.int .i64 x, .int .i64 n] W fun e w' => e = .returned (.bool bb) ∧ Below W.heap.size W w') := fun x bb x1 x2 hb W => by
        have := isq (x : Int) (n : Int) W
        have e : isSq (x : Int) (n : Int) = bb := by
          have k := isSq_nat (p := n) (a := x) (by omega) (by omega) x2 x1
          cases bb
          · cases hc : isSq (x : Int) (n : Int)
            · rfl
            · exact absurd (hb.1 (k.1 hc)) (by simp)
          · exact k.2 (hb.2 rfl)
        rw [e] at this
        exact this
      have KG := Lib.hid (fun W => IS.out g false R.g1 R.gp ⟨fun hs => absurd hs (R.notSq h2 ho), fun hs => by simp at hs⟩ W)
      have RR := Lib.hid R
      have LQ' := Lib.hid LQ
      have tm : ((m : Int) != (m : Int)) = false := by simp
      have g1 := R.g1
      have gp := R.gp
      have H2 := Lib.hid h2
      clear hp hpr r1 r2 r3 R h2 hlen eall hqs LQ hm
      go_wp2_with fail
      refine (KP.out _).mono ?_
      rintro e w3 ⟨rfl, b3⟩
      have B3 := Lib.hid (B2.out.trans (b3.mono B2.out.size))
      clear b3
      go_wp2_with fail
      refine (KO.out _).mono ?_
      rintro e w4 ⟨rfl, d4, rfl⟩
      go_wp2_with fail
      refine (KQ.out _).mono ?_
      rintro e w5 ⟨v5, rfl, i5, b5⟩
      have I5 := Lib.hid i5.at
      obtain ⟨a5, c5, rfl⟩ := intsAt_shape i5.at
      have B5 := Lib.hid ((below_drewN B3.out d4).trans (b5.mono B3.out.size))
      rw [LQ'.out]
      rw [LQ'.out] at I5
      clear i5 b5
      go_wp2_with fail
      refine (KG.out _).mono ?_
      rintro e w6 ⟨rfl, b6⟩
      have B6 := Lib.hid (B5.out.trans (b6.mono B5.out.size))
      have I6 := Lib.hid (I5.out.below b6 (Nat.le_refl _))
      clear b6
      go_wp2_with fail
      refine (b10_at _ b lenb capb ys (H'.out.below B6.out (Nat.le_refl _)) 0 m (.inl rfl) (by omega) (by omega)).mono ?_
      rintro e w7 ⟨i7, rfl, l7, rfl⟩
      obtain ⟨x, hx, x1, x2, x3⟩ := QS.out i7 (by omega)
      have X3 := Lib.hid x3
      have C7 : Hid (∀ i, i < m → ∃ g off, a5 = some ⟨g, off, none⟩ ∧ w6.cell? ⟨g, off + i, none⟩ = some (.int .i64 (qs.getD i 0))) := fun i hi => by
        obtain ⟨_, ⟨e, _⟩ | ⟨g, off, cap, e, hc⟩⟩ := I6.out
        · rw [e] at LQ'; have := LQ'.out; simp at this; omega
        · simp only [Value.slice.injEq] at e
          exact ⟨g, off, e.1, hc i (by rw [LQ'.out]; exact hi)⟩
      obtain ⟨g7, o7, rfl, c7⟩ := C7.out i7 (by omega)
      rw [hx] at c7
      have i70 : (0 : Int) ≤ (i7 : Int) := by omega
      clear hx x3
      go_wp2_with fail
      refine (b10_at _ b lenb capb ys (H'.out.below B6.out (Nat.le_refl _)) 1 m (.inr rfl) (by omega) (by omega)).mono ?_
      rintro e w8 ⟨i8, rfl, l8, rfl⟩
      obtain ⟨y, hy, y1, y2, y3⟩ := QS.out i8 (by omega)
      have Y3 := Lib.hid y3
      obtain ⟨g8, o8, e8, c8⟩ := C7.out i8 (by omega)
      simp only [Option.some.injEq, Addr.mk.injEq] at e8
      obtain ⟨rfl, rfl, -⟩ := e8
      rw [hy] at c8
      have i80 : (0 : Int) ≤ (i8 : Int) := by omega
      have hpr := RR.out.pr
      have n0 : 0 < n := by omega
      have KX := Lib.hid (fun W => IS.out x true x1 x2 ⟨fun _ => rfl, fun _ => X3.out⟩ W)
      have s1 := mul_pos_mod hpr x1 x2 y1 y2
      have s2 := Nat.mod_lt (x * y) n0
      have KY := Lib.hid (fun W => IS.out (x * y % n) true s1 s2 ⟨fun _ => rfl, fun _ => X3.out.mul n0 y3⟩ W)
      have z1 := mul_pos_mod hpr x1 x2 g1 gp
      have z2 := Nat.mod_lt (x * g) n0
      have KZ := Lib.hid (fun W => IS.out (x * g % n) false z1 z2 ⟨fun hs => absurd hs (RR.out.notSqMul H2.out x1 x2 X3.out), fun hs => by simp at hs⟩ W)
      obtain ⟨u, hu⟩ : ∃ u, x * y % n = u := ⟨_, rfl⟩
      obtain ⟨z, hz⟩ : ∃ z, x * g % n = z := ⟨_, rfl⟩
      rw [hu] at KY s2
      rw [hz] at KZ z2
      have pu0 : x * y ≤ 1000 * 1000 := Nat.mul_le_mul (by omega) (by omega)
      have pz0 : x * g ≤ 1000 * 1000 := Nat.mul_le_mul (by omega) (by omega)
      have eu : ((x : Int) * (y : Int)).tmod (n : Int) = (u : Int) := by
        rw [← Int.natCast_mul, Int.tmod_eq_emod_of_nonneg (by omega), ← Int.natCast_emod, hu]
      have ez : ((x : Int) * (g : Int)).tmod (n : Int) = (z : Int) := by
        rw [← Int.natCast_mul, Int.tmod_eq_emod_of_nonneg (by omega), ← Int.natCast_emod, hz]
      have q1 := IntWalk.i64_in ((x : Int) * (y : Int)) (by rw [← Int.natCast_mul]; omega)
      have q2 := IntWalk.i64_in ((x : Int) * (g : Int)) (by rw [← Int.natCast_mul]; omega)
      have q3 := IntWalk.i64_in (u : Int) (by omega)
      have q4 := IntWalk.i64_in (z : Int) (by omega)
      have t3 : ((n : Int) == 0) = false := by simp; omega
      have t4 : decide ((x : Int) < 1) = false := by simp; omega
      have t5 : decide ((n : Int) ≤ (x : Int)) = false := by simp; omega
      have t5' : decide (n ≤ x) = false := by simp; omega
      have t6 : decide ((y : Int) < 1) = false := by simp; omega
      have t7 : decide ((n : Int) ≤ (y : Int)) = false := by simp; omega
      have t7' : decide (n ≤ y) = false := by simp; omega
      clear hy y3 s1 z1 hu hz pu0 pz0 hpr s2 z2
      go_wp2_with fail
      refine (KX.out _).mono ?_
      rintro e w9 ⟨rfl, b9⟩
      have B9 := Lib.hid (B6.out.trans (b9.mono B6.out.size))
      clear b9
      go_wp2_with fail
      refine (KY.out _).mono ?_
      rintro e w10 ⟨rfl, b10⟩
      have B10 := Lib.hid (B9.out.trans (b10.mono B9.out.size))
      clear b10
      go_wp2_with fail
      refine (KZ.out _).mono ?_
      rintro e w11 ⟨rfl, b11⟩
      have B11 := Lib.hid (B10.out.trans (b11.mono B10.out.size))
      clear b11
      go_wp2
      go_ret
      exact ⟨rfl, B11.out⟩
  · obtain ⟨q, hq⟩ : ∃ q, isPr p = q := ⟨_, rfl⟩
    have KP := Lib.hid (fun W => by have := iprime p W; rw [hq] at this; exact this)
    rw [hq] at hn
    cases q
    · clear hn hq
      go_wp2_with fail
      refine (KP.out _).mono ?_
      rintro e w3 ⟨rfl, b3⟩
      have B3 := Lib.hid (B2.out.trans (b3.mono B2.out.size))
      clear b3
      go_wp2
      go_ret
      exact ⟨rfl, B3.out⟩
    · have hgt : decide ((1000 : Int) < p) = true := by
        have : ¬ p ≤ 1000 := fun c => hn ⟨rfl, c⟩
        simp; omega
      clear hn hq
      go_wp2_with fail
      refine (KP.out _).mono ?_
      rintro e w3 ⟨rfl, b3⟩
      have B3 := Lib.hid (B2.out.trans (b3.mono B2.out.size))
      clear b3
      go_wp2
      go_ret
      exact ⟨rfl, B3.out⟩
end Go.Proofs.Ytocjdjgfadaljaa
