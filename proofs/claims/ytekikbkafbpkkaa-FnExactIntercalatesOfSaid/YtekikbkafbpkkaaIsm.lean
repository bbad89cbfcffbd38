/- Isotope: the model. -/
import Derived.Test.YtekikbkafbpkkaaIso
namespace Go.Proofs.Ytekikbkafbpkkaa
open Go.RowKit
set_option linter.unusedVariables false

theorem IntsAt.look {w : World} {v : Value} {xs : List Int} {n : Nat} (h : IntsAt w v xs) (hn : xs.length = n) : ∃ a c, v = .slice a n c ∧ ∀ W, Below w.heap.size w W → ∀ i, i < n → ∃ g off, a = some ⟨g, off, none⟩ ∧ W.cell? ⟨g, off + i, none⟩ = some (.int .i64 (xs.getD i 0)) := by
  obtain ⟨a, c, e, k⟩ := part2 h
  rw [hn] at e k
  refine ⟨a, c, e, fun W hb i hi => ?_⟩
  obtain ⟨g, off, h1, h2, h3⟩ := k i hi
  exact ⟨g, off, h1, (hb.cell (p := ⟨g, off + i, none⟩) h2).trans h3⟩
theorem RowsAt.look {w : World} {v : Value} {xss : List (List Int)} {n : Nat} (h : RowsAt w v xss) (hn : xss.length = n) (hr : ∀ x, x < n → (xss.getD x []).length = n) :
    ∃ a c, v = .slice a n c ∧ ∀ W, Below w.heap.size w W → ∀ x y, x < n → y < n → ∃ g off g2 off2 c2, a = some ⟨g, off, none⟩ ∧ W.cell? ⟨g, off + x, none⟩ = some (.slice (some ⟨g2, off2, none⟩) n c2) ∧ W.cell? ⟨g2, off2 + y, none⟩ = some (.int .i64 (cellF xss x y)) := by
  obtain ⟨a, c, e, -, hc⟩ := h.cellsOf
  rw [hn] at e
  refine ⟨a, c, e, fun W hb x y hx hy => ?_⟩
  obtain ⟨g, off, u, h1, h2, h3, h4⟩ := hc x (by omega)
  obtain ⟨a2, c2, e2, _, _, h5⟩ := h4.part
  have el := hr x hx
  obtain ⟨g2, off2, h6, h7, h8⟩ := h5 y (by omega)
  subst h6
  rw [el] at e2
  exact ⟨g, off, g2, off2, c2, h1, by rw [(hb.cell (p := ⟨g, off + x, none⟩) h2).trans h3, e2], (hb.cell (p := ⟨g2, off2 + y, none⟩) h7).trans h8⟩

set_option maxRecDepth 100000 in
set_option maxHeartbeats 8000000 in
theorem sIsoL (n : Nat) (h1 : 1 ≤ n) (hn : n ≤ 10) (w : World) (v vr vc vs : Value) (xss : List (List Int)) (rs cs ss : List Int) (hv : RowsAt w v xss) (ir : IntsAt w vr rs) (ic : IntsAt w vc cs) (is : IntsAt w vs ss)
    (lx : xss.length = n) (hr : ∀ x, x < n → (xss.getD x []).length = n) (hc : ∀ x y, x < n → y < n → 0 ≤ cellF xss x y ∧ cellF xss x y < n) (lr : rs.length = n) (lc : cs.length = n) (ls : ss.length = n)
    (hrs : ∀ i, i < n → 0 ≤ rs.getD i 0 ∧ rs.getD i 0 < n) (hcs : ∀ i, i < n → 0 ≤ cs.getD i 0 ∧ cs.getD i 0 < n) :
    Calls Try.prog 68 #[v, vr, vc, vs] w fun e w' => ∃ r, e = .returned r ∧ RowsL w' w.heap.size w'.heap.size r (gridL n n (movSt n (isoMv xss rs cs ss) n)) ∧ Below w.heap.size w w' := by
  obtain ⟨va, vk, rfl, k0⟩ := hv.look lx hr
  obtain ⟨ra, rk, rfl, k1⟩ := ir.look lr
  obtain ⟨ca, ck, rfl, k2⟩ := ic.look lc
  obtain ⟨sa, sk, rfl, k3⟩ := is.look ls
  have HK0 := Lib.hid k0
  have HK1 := Lib.hid k1
  have HK2 := Lib.hid k2
  have HK3 := Lib.hid k3
  have HC := Lib.hid hc
  have HRS := Lib.hid hrs
  have HCS := Lib.hid hcs
  have HZ := Lib.hid (sZero n n (by omega) (by omega) w)
  have MV : Hid (∀ x y, isoMv xss rs cs ss x y = ((rs.getD x 0).toNat, (cs.getD y 0).toNat, ss.getD (cellF xss x y).toNat 0)) := fun x y => rfl
  obtain ⟨mv, hmv⟩ : ∃ mv, isoMv xss rs cs ss = mv := ⟨_, rfl⟩
  rw [hmv] at MV ⊢
  have MS : Hid (∀ x, movSt n mv (x + 1) = rowSt mv x (movSt n mv x) n) := fun x => rfl
  have RS : Hid (∀ x f y, rowSt mv x f (y + 1) = upd2 (rowSt mv x f y) (mv x y).1 (mv x y).2.1 (mv x y).2.2) := fun x f y => rfl
  have R0 : Hid (∀ x f, rowSt mv x f 0 = f) := fun x f => rfl
  have M0 : Hid (movSt n mv 0 = fun _ _ => 0) := rfl
  clear hv ir ic is k0 k1 k2 k3 hr hc hrs hcs hmv lx lr lc ls
  go_enter Try.func68, Try.ntmps68
  go_wp2_with fail
  refine HZ.out.mono ?_
  rintro e w1 ⟨o, rfl, r1, b1⟩
  obtain ⟨g0, c0, rfl⟩ := r1.parts h1
  obtain ⟨Z, hZ⟩ : ∃ Z, w1.heap.size = Z := ⟨_, rfl⟩
  rw [hZ, ← M0.out] at r1
  have R1 := Lib.hid r1
  have B1 := Lib.hid b1
  have z1 : Hid (w1.heap.size = Z) := hZ
  clear r1 b1 hZ HZ
  go_wp2
  go_loopw [11] (fun i wr => ∃ x : Nat, x ≤ n ∧ i = .int .i64 x ∧ Hid (RowsL wr w.heap.size Z (.slice (some ⟨g0, 0, none⟩) n c0) (gridL n n (movSt n mv x))) ∧ Hid (Below w.heap.size w wr) ∧ Hid (wr.heap.size = Z)) (fun i _ => n - (intOf i).toNat)
  case atStart => exact ⟨0, by omega, rfl, R1, B1, z1⟩
  case round =>
    obtain ⟨x, hx, rfl, hR, hBl, hz⟩ := hrel
    by_cases c : x < n
    · have k1 : decide (x < n) = true := by simpa using c
      have k1' : decide ((x : Int) < (n : Int)) = true := decide_eq_true (by omega)
      have w3 := IntWalk.i64_in ((x : Int) + 1) (by omega)
      have x0 : (0 : Int) ≤ (x : Int) := by omega
      have x1 : (x : Int) < (n : Int) := by omega
      obtain ⟨wq, rfl⟩ : ∃ wq : World, wq = wr := ⟨_, rfl⟩
      go_wp2
      go_loopw [12] (fun i wr => ∃ y : Nat, y ≤ n ∧ i = .int .i64 y ∧ Hid (RowsL wr w.heap.size Z (.slice (some ⟨g0, 0, none⟩) n c0) (gridL n n (rowSt mv x (movSt n mv x) y))) ∧ Hid (Below w.heap.size w wr) ∧ Hid (wr.heap.size = Z)) (fun i _ => n - (intOf i).toNat)
      case atStart => exact ⟨0, by omega, rfl, by unfold Hid; rw [R0.out]; exact hR, hBl, hz⟩
      case round =>
        obtain ⟨y, hy, rfl, hR2, hBl2, hz2⟩ := hrel
        by_cases c2 : y < n
        · have k2 : decide (y < n) = true := by simpa using c2
          have k2' : decide ((y : Int) < (n : Int)) = true := decide_eq_true (by omega)
          have w4 := IntWalk.i64_in ((y : Int) + 1) (by omega)
          have y0 : (0 : Int) ≤ (y : Int) := by omega
          have y1 : (y : Int) < (n : Int) := by omega
          obtain ⟨wd, hwd⟩ : ∃ wd, wr.drew = wd := ⟨_, rfl⟩
          have hR3 : RowsL wd w.heap.size Z (.slice (some ⟨g0, 0, none⟩) n c0) (gridL n n (rowSt mv x (movSt n mv x) y)) := by rw [← hwd]; exact hR2.out
          have hB3 : Below w.heap.size w wd := by rw [← hwd]; exact hBl2.out.drew
          have hz3 : wd.heap.size = Z := by rw [← hwd]; exact hz2.out
          have mvx := MV.out x y
          have rsx := RS.out x (movSt n mv x) y
          rw [mvx] at rsx
          obtain ⟨p1, p2⟩ := HRS.out x c
          obtain ⟨q1, q2⟩ := HCS.out y c2
          obtain ⟨u1, u2⟩ := HC.out x y c c2
          obtain ⟨gr, fr, rfl, m1⟩ := HK1.out wd hB3 x c
          obtain ⟨gc, fc, rfl, m2⟩ := HK2.out wd hB3 y c2
          obtain ⟨ga, fa, ga2, fa2, ca2, rfl, m4, m5⟩ := HK0.out wd hB3 x y c c2
          obtain ⟨u, hu⟩ : ∃ u : Nat, cellF xss x y = u := ⟨(cellF xss x y).toNat, by omega⟩
          obtain ⟨p, hp⟩ : ∃ p : Nat, rs.getD x 0 = p := ⟨(rs.getD x 0).toNat, by omega⟩
          obtain ⟨q, hq⟩ : ∃ q : Nat, cs.getD y 0 = q := ⟨(cs.getD y 0).toNat, by omega⟩
          rw [hu] at m5 u1 u2 rsx
          rw [hp] at m1 p1 p2 rsx
          rw [hq] at m2 q1 q2 rsx
          simp only [Int.toNat_natCast] at rsx
          obtain ⟨gs, fs, rfl, m3⟩ := HK3.out wd hB3 u (by omega)
          obtain ⟨z, hzz⟩ : ∃ z, ss.getD u 0 = z := ⟨_, rfl⟩
          rw [hzz] at m3 rsx
          obtain ⟨g0', c0', g, cc, e0, d1, d2, d3, d4, d5, d6⟩ := gridSet hR3 (x := p) (y := q) (by omega) (by omega)
          simp only [Value.slice.injEq, Option.some.injEq, Addr.mk.injEq] at e0
          obtain ⟨⟨rfl, -⟩, -, rfl⟩ := e0
          have S1 : Hid (RowsL (wd.setCell ⟨g, q, none⟩ (.int .i64 z)) w.heap.size Z (.slice (some ⟨g0, 0, none⟩) n c0) (gridL n n (rowSt mv x (movSt n mv x) (y + 1)))) := by have := d6 z; rwa [← rsx] at this
          have S2 : Hid (Below w.heap.size w (wd.setCell ⟨g, q, none⟩ (.int .i64 z))) := hB3.setCell (p := ⟨g, q, none⟩) d4 _
          have S3 : Hid ((wd.setCell ⟨g, q, none⟩ (.int .i64 z)).heap.size = Z) := by unfold Hid; rw [← hz3]; simp [World.setCell]
          clear hzz rsx hR3 d6 hB3 mvx hu hp hq
          go_wp2
          refine wp_region_still_tail 22 (by kernel_rfl) (by kernel_rfl) ?_
          simp only [List.take_succ_cons, List.take_zero, List.drop_succ_cons, List.drop_zero]
          change wpStill _ _ wr.drew _ _ _
          rw [hwd]
          repeat still_step
          refine wpStill_nil ?_
          change wpList _ _ _ _ _ wr.drew
          rw [hwd]
          clear hwd
          go_wp2
          go_roundw
          case rel => exact ⟨y + 1, by omega, by go_num, S1, S2, S3⟩
          case measure => simp [intOf]; omega
        · have k2 : decide (y < n) = false := by simpa using c2
          have k2' : decide ((y : Int) < (n : Int)) = false := decide_eq_false (by omega)
          obtain rfl : y = n := by omega
          go_wp2
          go_roundw
          case rel => exact ⟨x + 1, by omega, by go_num, by unfold Hid; rw [MS.out]; exact hR2.out, hBl2, hz2⟩
          case measure => simp [intOf]; omega
    · have k1 : decide (x < n) = false := by simpa using c
      have k1' : decide ((x : Int) < (n : Int)) = false := decide_eq_false (by omega)
      obtain rfl : x = n := by omega
      have hR' := hR.out
      rw [← hz.out] at hR'
      have RR := Lib.hid hR'
      clear hR'
      go_wp2
      go_ret
      exact ⟨_, rfl, RR.out, hBl.out⟩
end Go.Proofs.Ytekikbkafbpkkaa
