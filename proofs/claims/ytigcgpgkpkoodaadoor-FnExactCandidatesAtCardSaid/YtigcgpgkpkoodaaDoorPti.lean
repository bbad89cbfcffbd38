/- Partial squares: the program's candidates, fill and empty. -/
import Derived.Test.YtigcgpgkpkoodaaDoorPt
import Derived.Test.YtigcgpgkpkoodaaDoorWi
import Derived.Test.YtigcgpgkpkoodaaDoorLsq
import Derived.Test.YtigcgpgkpkoodaaDoorRowk
namespace Go.Proofs.YtigcgpgkpkoodaaDoor
open Go.RowKit Go.Shelf
set_option linter.unusedVariables false

theorem u32_andp (a b : Nat) (ha : a < 4294967296) (hb : b < 4294967296) : bits .and .u32 (a : Int) (b : Int) = ((a &&& b : Nat) : Int) := by
  have hx : a &&& b < 2 ^ 32 := Nat.and_lt_two_pow _ (by omega)
  show IntKind.u32.wrap ((BitVec.ofInt 32 (a : Int) &&& BitVec.ofInt 32 (b : Int)).toNat : Int) = _
  rw [BitVec.toNat_and, ofInt_u32b a ha, ofInt_u32b b hb, IntKind.wrap_u32]
  omega
theorem u32_andNotp (a b : Nat) (ha : a < 4294967296) (hb : b < 4294967296) : bits .andNot .u32 (a : Int) (b : Int) = ((mns a b : Nat) : Int) := by
  have hx : a &&& (4294967295 - b) < 2 ^ 32 := Nat.and_lt_two_pow _ (by omega)
  show IntKind.u32.wrap ((BitVec.ofInt 32 (a : Int) &&& ~~~ BitVec.ofInt 32 (b : Int)).toNat : Int) = _
  rw [BitVec.toNat_and, BitVec.toNat_not, ofInt_u32b a ha, ofInt_u32b b hb, IntKind.wrap_u32]
  have e : 2 ^ 32 - 1 - b = 4294967295 - b := rfl
  rw [e]
  unfold mns
  omega
theorem iminusp (x y : Nat) (w : World) (hx : x < 4294967296) (hy : y < 4294967296) :
    Calls Tryd.prog 45 #[.int .u32 x, .int .u32 y] w fun e w' => e = .returned (.int .u32 ((mns x y : Nat) : Int)) ∧ w' = w := by
  have e1 := u32_andNotp x y hx hy
  obtain ⟨z, hz⟩ : ∃ z, mns x y = z := ⟨_, rfl⟩
  rw [hz] at e1 ⊢
  clear hz hx hy
  go_enter Tryd.func45, Tryd.ntmps45
  go_wp2
  go_ret
  exact ⟨rfl, rfl⟩
theorem and_pow_ne (s z : Nat) : (((s &&& 2 ^ z : Nat) : Int) != 0) = s.testBit z := by
  cases e : s.testBit z with
  | true =>
    have : ¬ s &&& 2 ^ z = 0 := fun h => by
      have k : (s &&& 2 ^ z).testBit z = true := by rw [Nat.testBit_and, e, Nat.testBit_two_pow, decide_eq_true rfl]; rfl
      rw [h, Nat.zero_testBit] at k; cases k
    have h2 : ¬ (((s &&& 2 ^ z : Nat) : Int) = 0) := by omega
    simpa using h2
  | false =>
    have : s &&& 2 ^ z = 0 := Nat.eq_of_testBit_eq fun i => by
      rw [Nat.testBit_and, Nat.testBit_two_pow, Nat.zero_testBit]
      by_cases c : z = i
      · rw [← c, e]; rfl
      · rw [decide_eq_false c, Bool.and_false]
    rw [this]; rfl
theorem ihasp (s z : Nat) (hs : s < 4294967296) (hz : z < 32) (w : World) :
    Calls Tryd.prog 92 #[.int .u32 s, .int .i64 z] w fun e w' => e = .returned (.bool (s.testBit z)) ∧ w' = w := by
  have H := Lib.hid (isingleb z hz w)
  have e1 := u32_andp s (2 ^ z) hs (two_pow_lt hz)
  have e2 := and_pow_ne s z
  obtain ⟨p, hp⟩ : ∃ p, 2 ^ z = p := ⟨_, rfl⟩
  rw [hp] at H e1 e2
  obtain ⟨q, hq⟩ : ∃ q, s &&& p = q := ⟨_, rfl⟩
  rw [hq] at e1 e2
  obtain ⟨b, hb⟩ : ∃ b, s.testBit z = b := ⟨_, rfl⟩
  rw [hb] at e2 ⊢
  clear hp hq hb hs hz
  go_enter Tryd.func92, Tryd.ntmps92
  go_wp2_with fail
  refine H.out.mono ?_
  rintro e w' ⟨rfl, rfl⟩
  go_wp2
  go_ret
  exact ⟨rfl, rfl⟩

set_option maxRecDepth 100000 in
set_option maxHeartbeats 4000000 in
theorem icand (n : Nat) (hn : n ≤ 10) (x y : Nat) (hx : x < 10) (hy : y < 10) (G : Nat → Nat → Int) (r c : Nat → Nat) (W : World) (g : Nat) (hA : PtV W g n G r c) (hr : r x < 4294967296) (hc : c y < 4294967296) :
    Calls Tryd.prog 62 #[.pointer (some ⟨g, 0, none⟩), .int .i64 x, .int .i64 y] W fun e W' => e = .returned (.int .u32 ((cnd n (r x) (c y) : Nat) : Int)) ∧ ∃ k, W' = W.drewN k := by
  have m0 := hA.order
  have m1 := hA.rowC hx
  have m2 := hA.colC hy
  have n2 : 2 ^ n - 1 < 4294967296 := by
    have : 2 ^ n ≤ 2 ^ 10 := Nat.pow_le_pow_right (by omega) hn
    omega
  have HB := Lib.hid (fun W => ibelow n hn W)
  have HM1 := Lib.hid (fun W => iminusp (2 ^ n - 1) (r x) W n2 hr)
  have HM2 := Lib.hid (fun W => iminusp (mns (2 ^ n - 1) (r x)) (c y) W (mns_lt n2) hc)
  have ec : cnd n (r x) (c y) = mns (mns (2 ^ n - 1) (r x)) (c y) := rfl
  rw [ec]
  obtain ⟨u, hu⟩ : ∃ u, r x = u := ⟨_, rfl⟩
  obtain ⟨v, hv⟩ : ∃ v, c y = v := ⟨_, rfl⟩
  simp only [hu, hv] at m1 m2 HM1 HM2 ⊢
  obtain ⟨p, hp⟩ : ∃ p, 2 ^ n - 1 = p := ⟨_, rfl⟩
  simp only [hp] at HB HM1 HM2 ⊢
  obtain ⟨q, hq⟩ : ∃ q, mns p u = q := ⟨_, rfl⟩
  simp only [hq] at HM1 HM2 ⊢
  obtain ⟨s, hs⟩ : ∃ s, mns q v = s := ⟨_, rfl⟩
  simp only [hs] at HM2 ⊢
  have x0 : (0 : Int) ≤ (x : Int) := by omega
  have x1 : (x : Int) < 10 := by omega
  have y0 : (0 : Int) ≤ (y : Int) := by omega
  have y1 : (y : Int) < 10 := by omega
  clear hA ec hu hv hp hq hs n2 hr hc
  go_enter Tryd.func62, Tryd.ntmps62
  go_wp2
  go_quiet (first
    | (go_at_call 80; first | exact Calls.quiet_of_same (HB.out _) | exact quiet_same2 (HB.out _))
    | (go_at_call 45; first | exact Calls.quiet_of_same (HM1.out _) | exact quiet_same2 (HM1.out _) | exact Calls.quiet_of_same (HM2.out _) | exact quiet_same2 (HM2.out _)))
  go_wp2
  go_ret
  exact ⟨rfl, _, rfl⟩

theorem cell3 {w : World} {b : Nat} {x y z : Int} (h : w.heap[b]? = some (.cells #[.int .i64 x, .int .i64 y, .int .i64 z] 100 (0, 0))) :
    w.cell? ⟨b, 0, none⟩ = some (.int .i64 x) ∧ w.cell? ⟨b, 1, none⟩ = some (.int .i64 y) ∧ w.cell? ⟨b, 2, none⟩ = some (.int .i64 z) :=
  ⟨by rw [cell_of_row w b 0 _ _ _ h]; rfl, by rw [cell_of_row w b 1 _ _ _ h]; rfl, by rw [cell_of_row w b 2 _ _ _ h]; rfl⟩

set_option maxHeartbeats 4000000 in
theorem iisEmpty (x y z : Int) (W : World) :
    Calls Tryd.prog 87 #[.agg #[.int .i64 x, .int .i64 y, .int .i64 z]] W fun e W' => e = .returned (.bool (z == -1)) ∧ Below W.heap.size W W' := by
  have A1 : (W.alloc (.cells #[.int .i64 x, .int .i64 y, .int .i64 z] 100)).heap[W.heap.size]? = some (.cells #[.int .i64 x, .int .i64 y, .int .i64 z] 100 (0, 0)) := heap_alloc_new _ _
  have B1 : Hid (Below W.heap.size W (W.alloc (.cells #[.int .i64 x, .int .i64 y, .int .i64 z] 100))) := (Below.refl _ _).alloc (Nat.le_refl _) _
  obtain ⟨-, -, c3⟩ := cell3 A1
  obtain ⟨q, hq⟩ : ∃ q, (z == -1) = q := ⟨_, rfl⟩
  rw [hq]
  clear A1
  go_enter Tryd.func87, Tryd.ntmps87
  go_wp2
  go_ret
  exact ⟨rfl, B1.out⟩

set_option maxRecDepth 100000 in
set_option maxHeartbeats 4000000 in
theorem ican (n : Nat) (hn : n ≤ 10) (x y : Nat) (hx : x < 10) (hy : y < 10) (z : Int) (G : Nat → Nat → Int) (r c : Nat → Nat) (W : World) (g : Nat) (hA : PtV W g n G r c) (hr : r x < 4294967296) (hc : c y < 4294967296) :
    Calls Tryd.prog 88 #[.pointer (some ⟨g, 0, none⟩), .agg #[.int .i64 x, .int .i64 y, .int .i64 z]] W fun e W' => e = .returned (.bool (canI n (r x) (c y) z)) ∧ Below W.heap.size W W' := by
  obtain ⟨b, hb⟩ : ∃ b, W.heap.size = b := ⟨_, rfl⟩
  have A1 : (W.alloc (.cells #[.int .i64 x, .int .i64 y, .int .i64 z] 100)).heap[b]? = some (.cells #[.int .i64 x, .int .i64 y, .int .i64 z] 100 (0, 0)) := by rw [← hb]; exact heap_alloc_new _ _
  have B1 : Below b W (W.alloc (.cells #[.int .i64 x, .int .i64 y, .int .i64 z] 100)) := (Below.refl _ _).alloc (by omega) _
  have P1 : PtV (W.alloc (.cells #[.int .i64 x, .int .i64 y, .int .i64 z] 100)) g n G r c := hA.below B1 (by rw [← hb]; exact hA.lt)
  obtain ⟨W1, hW1⟩ : ∃ W1, W.alloc (.cells #[.int .i64 x, .int .i64 y, .int .i64 z] 100) = W1 := ⟨_, rfl⟩
  rw [hW1] at A1 B1 P1
  obtain ⟨c1, c2, c3⟩ := cell3 A1
  have m0 := P1.order
  have HB := Lib.hid B1
  have HC := Lib.hid (fun k => icand n hn x y hx hy G r c (W1.drewN k) g P1 hr hc)
  have HH := Lib.hid (fun (t : Nat) (ht : t < 32) W => ihasp (cnd n (r x) (c y)) t (cnd_lt hn) ht W)
  have V1 : Hid (z < 0 → canI n (r x) (c y) z = false) := fun h => by unfold canI; rw [decide_eq_false (by omega)]; rfl
  have V2 : Hid (n ≤ z → canI n (r x) (c y) z = false) := fun h => by unfold canI; rw [decide_eq_false (by omega)]; rfl
  have V3 : Hid (∀ t : Nat, t < n → z = t → canI n (r x) (c y) z = (cnd n (r x) (c y)).testBit t) := fun t h e => by unfold canI; rw [decide_eq_true (by omega), e]; rfl
  obtain ⟨V, hV⟩ : ∃ V, canI n (r x) (c y) z = V := ⟨_, rfl⟩
  obtain ⟨s, hs⟩ : ∃ s, cnd n (r x) (c y) = s := ⟨_, rfl⟩
  simp only [hV, hs] at V1 V2 V3 HC HH ⊢
  rw [hb]
  clear hA A1 B1 P1 hV hs
  by_cases k0 : z < 0
  · have E := Lib.hid (V1.out k0)
    have t1 : decide (0 ≤ z) = false := decide_eq_false (by omega)
    clear V1 V2 V3 k0
    go_enter Tryd.func88, Tryd.ntmps88
    go_wp2
    go_quiet (fail)
    go_wp2
    go_ret
    exact ⟨by rw [E.out]; rfl, Go.below_drewN HB.out _⟩
  · have t1 : decide (0 ≤ z) = true := decide_eq_true (by omega)
    by_cases k1 : z < n
    · obtain ⟨t, rfl⟩ : ∃ t : Nat, z = t := ⟨z.toNat, by omega⟩
      have E := Lib.hid (V3.out t (by omega) rfl)
      have H2 := Lib.hid (fun W => HH.out t (by omega) W)
      have t2 : decide ((t : Int) < (n : Int)) = true := decide_eq_true k1
      have t2' : decide (t < n) = true := decide_eq_true (by omega)
      obtain ⟨q, hq⟩ : ∃ q, s.testBit t = q := ⟨_, rfl⟩
      simp only [hq] at E H2
      clear V1 V2 V3 k0 k1 HH hq
      go_enter Tryd.func88, Tryd.ntmps88
      go_wp2
      go_quiet (first
        | (go_at_call 62; first | exact Calls.quiet_of (HC.out _) | exact quiet_drew2 (HC.out _))
        | (go_at_call 92; first | exact Calls.quiet_of_same (H2.out _) | exact quiet_same2 (H2.out _)))
      go_wp2
      go_ret
      exact ⟨by rw [E.out]; rfl, Go.below_drewN HB.out _⟩
    · have E := Lib.hid (V2.out (by omega))
      have t2 : decide (z < (n : Int)) = false := decide_eq_false k1
      clear V1 V2 V3 k0 k1
      go_enter Tryd.func88, Tryd.ntmps88
      go_wp2
      go_quiet (fail)
      go_wp2
      go_ret
      exact ⟨by rw [E.out]; rfl, Go.below_drewN HB.out _⟩

set_option maxRecDepth 100000 in
set_option maxHeartbeats 8000000 in
theorem ifillp (n : Nat) (x y : Nat) (hx : x < 10) (hy : y < 10) (z : Nat) (hz : z < 32) (G : Nat → Nat → Int) (r c : Nat → Nat) (W : World) (g : Nat) (hA : PtV W g n G r c) (hr : r x < 4294967296) (hc : c y < 4294967296) :
    Calls Tryd.prog 89 #[.pointer (some ⟨g, 0, none⟩), .agg #[.int .i64 x, .int .i64 y, .int .i64 z]] W fun e W' => e = .returned (.tuple #[]) ∧ PtV W' g n (upd2 G x y z) (updN r x (r x ||| 2 ^ z)) (updN c y (c y ||| 2 ^ z)) ∧ Below g W W' := by
  obtain ⟨b, hb⟩ : ∃ b, W.heap.size = b := ⟨_, rfl⟩
  have gb : g < b := by rw [← hb]; exact hA.lt
  have A1 : (W.alloc (.cells #[.int .i64 x, .int .i64 y, .int .i64 z] 100)).heap[b]? = some (.cells #[.int .i64 x, .int .i64 y, .int .i64 z] 100 (0, 0)) := by rw [← hb]; exact heap_alloc_new _ _
  have b1' : Below b W (W.alloc (.cells #[.int .i64 x, .int .i64 y, .int .i64 z] 100)) := (Below.refl _ _).alloc (by omega) _
  have P1 := hA.below b1' gb
  have b1 := b1'.mono (Nat.le_of_lt gb)
  obtain ⟨W1, hW1⟩ : ∃ W1, W.alloc (.cells #[.int .i64 x, .int .i64 y, .int .i64 z] 100) = W1 := ⟨_, rfl⟩
  rw [hW1] at A1 b1 P1
  -- the symbol
  obtain ⟨v1, hv1⟩ : ∃ v1, W1.drew = v1 := ⟨_, rfl⟩
  have A1d : v1.heap[b]? = some (.cells #[.int .i64 x, .int .i64 y, .int .i64 z] 100 (0, 0)) := by rw [← hv1]; exact A1
  have P1d : PtV v1 g n G r c := by rw [← hv1]; exact P1
  have b1d : Below g W v1 := by rw [← hv1]; exact b1.drew
  obtain ⟨c11, c12, c13⟩ := cell3 A1d
  have o1 := P1d.sym hx hy
  have f1 := P1d.frozen (1 + x * 10 + y)
  have P2 := P1d.setSym hx hy (z : Int)
  have A2 : (v1.setCell ⟨g, 1 + x * 10 + y, none⟩ (.int .i64 z)).heap[b]? = some (.cells #[.int .i64 x, .int .i64 y, .int .i64 z] 100 (0, 0)) := (Below.heap_setCell v1 ⟨g, 1 + x * 10 + y, none⟩ _ b (by simp only; omega)).trans A1d
  have b2 : Below g W (v1.setCell ⟨g, 1 + x * 10 + y, none⟩ (.int .i64 z)) := b1d.setCell (p := ⟨g, 1 + x * 10 + y, none⟩) (Nat.le_refl _) _
  obtain ⟨W2, hW2⟩ : ∃ W2, v1.setCell ⟨g, 1 + x * 10 + y, none⟩ (.int .i64 z) = W2 := ⟨_, rfl⟩
  rw [hW2] at P2 A2 b2
  -- the row
  obtain ⟨v2, hv2⟩ : ∃ v2, W2.drew = v2 := ⟨_, rfl⟩
  have A2d : v2.heap[b]? = some (.cells #[.int .i64 x, .int .i64 y, .int .i64 z] 100 (0, 0)) := by rw [← hv2]; exact A2
  have P2d : PtV v2 g n (upd2 G x y z) r c := by rw [← hv2]; exact P2
  have b2d : Below g W v2 := by rw [← hv2]; exact b2.drew
  obtain ⟨c21, c22, c23⟩ := cell3 A2d
  have o2 := P2d.rowC hx
  have f2 := P2d.frozen (101 + x)
  have P3 := P2d.setRow hx (r x ||| 2 ^ z)
  have A3 : (v2.setCell ⟨g, 101 + x, none⟩ (.int .u32 ((r x ||| 2 ^ z : Nat) : Int))).heap[b]? = some (.cells #[.int .i64 x, .int .i64 y, .int .i64 z] 100 (0, 0)) := (Below.heap_setCell v2 ⟨g, 101 + x, none⟩ _ b (by simp only; omega)).trans A2d
  have b3 : Below g W (v2.setCell ⟨g, 101 + x, none⟩ (.int .u32 ((r x ||| 2 ^ z : Nat) : Int))) := b2d.setCell (p := ⟨g, 101 + x, none⟩) (Nat.le_refl _) _
  have S1 := Lib.hid (fun W => isingleb z hz W)
  have U1 := Lib.hid (fun W => iunionb (r x) (2 ^ z) W hr (two_pow_lt hz))
  have U2 := Lib.hid (fun W => iunionb (c y) (2 ^ z) W hc (two_pow_lt hz))
  obtain ⟨p, hp⟩ : ∃ p, 2 ^ z = p := ⟨_, rfl⟩
  simp only [hp] at S1 U1 U2 P3 A3 b3 ⊢
  obtain ⟨r2, hr2⟩ : ∃ r2, updN r x (r x ||| p) = r2 := ⟨_, rfl⟩
  rw [hr2] at P3 ⊢
  obtain ⟨u, hu⟩ : ∃ u, r x = u := ⟨_, rfl⟩
  obtain ⟨v, hv⟩ : ∃ v, c y = v := ⟨_, rfl⟩
  simp only [hu] at U1 o2 P3 A3 b3
  simp only [hv] at U2 ⊢
  obtain ⟨q1, hq1⟩ : ∃ q, u ||| p = q := ⟨_, rfl⟩
  obtain ⟨q2, hq2⟩ : ∃ q, v ||| p = q := ⟨_, rfl⟩
  simp only [hq1] at U1 P3 A3 b3
  simp only [hq2] at U2 ⊢
  obtain ⟨W3, hW3⟩ : ∃ W3, v2.setCell ⟨g, 101 + x, none⟩ (.int .u32 (q1 : Int)) = W3 := ⟨_, rfl⟩
  rw [hW3] at P3 A3 b3
  -- the column
  obtain ⟨v3, hv3⟩ : ∃ v3, W3.drew = v3 := ⟨_, rfl⟩
  have A3d : v3.heap[b]? = some (.cells #[.int .i64 x, .int .i64 y, .int .i64 z] 100 (0, 0)) := by rw [← hv3]; exact A3
  have P3d : PtV v3 g n (upd2 G x y z) r2 c := by rw [← hv3]; exact P3
  have b3d : Below g W v3 := by rw [← hv3]; exact b3.drew
  obtain ⟨c31, c32, c33⟩ := cell3 A3d
  have o3 := P3d.colC hy
  rw [hv] at o3
  have f3 := P3d.frozen (111 + y)
  have P4 := Lib.hid (P3d.setCol hy q2)
  have b4 : Hid (Below g W (v3.setCell ⟨g, 111 + y, none⟩ (.int .u32 (q2 : Int)))) := b3d.setCell (p := ⟨g, 111 + y, none⟩) (Nat.le_refl _) _
  have x0 : (0 : Int) ≤ (x : Int) := by omega
  have x1 : (x : Int) < 10 := by omega
  have y0 : (0 : Int) ≤ (y : Int) := by omega
  have y1 : (y : Int) < 10 := by omega
  clear hA A1 P1 b1 b1' A1d P1d b1d P2 A2 b2 A2d P2d b2d P3 A3 b3 A3d P3d b3d hp hr2 hu hv hq1 hq2 hr hc
  go_enter Tryd.func89, Tryd.ntmps89
  go_wp2
  refine wp_region_still_tail 12 (by kernel_rfl) (by kernel_rfl) ?_
  simp only [List.take_succ_cons, List.take_zero, List.drop_succ_cons, List.drop_zero]
  change wpStill _ _ W1.drew _ _ _
  rw [hv1]
  repeat still_step
  refine wpStill_nil ?_
  change wpList _ _ _ _ _ W1.drew
  rw [hv1]
  go_wp2
  refine wp_region_still_tail 17 (by kernel_rfl) (by kernel_rfl) ?_
  simp only [List.take_succ_cons, List.take_zero, List.drop_succ_cons, List.drop_zero]
  change wpStill _ _ W2.drew _ _ _
  rw [hv2]
  repeat still_step
  still_call (S1.out _)
  still_call (U1.out _)
  repeat still_step
  refine wpStill_nil ?_
  change wpList _ _ _ _ _ W2.drew
  rw [hv2]
  go_wp2
  refine wp_region_still_tail 17 (by kernel_rfl) (by kernel_rfl) ?_
  simp only [List.take_succ_cons, List.take_zero, List.drop_succ_cons, List.drop_zero]
  change wpStill _ _ W3.drew _ _ _
  rw [hv3]
  repeat still_step
  still_call (S1.out _)
  still_call (U2.out _)
  repeat still_step
  refine wpStill_nil ?_
  change wpList _ _ _ _ _ W3.drew
  rw [hv3]
  go_wp2
  go_end0
  exact ⟨rfl, P4.out, b4.out⟩
end Go.Proofs.YtigcgpgkpkoodaaDoor
