/- TripleLoop: the values; the program's. -/
import Derived.Test.YtanfodbpgpfjmabDoorTqi
namespace Go.Proofs.YtanfodbpgpfjmabDoor
open Go.RowKit Go.Shelf
set_option linter.unusedVariables false
set_option linter.unusedSimpArgs false

/-- The loop of a system with N points. -/
def tlF (N : Nat) (xss : List (List Int)) (x y : Nat) : Int := if x = y then (N : Int) else if x = N then (y : Int) else if y = N then (x : Int) else thirdI x y xss
noncomputable def TripleLoop_0 (n : Int) (xss : List (List Int)) : List (List Int) := if tripB n xss = true then (if n + 1 ≤ 10 then gridL (n.toNat + 1) (n.toNat + 1) (tlF n.toNat xss) else []) else []
noncomputable def TripleLoop_1 (n : Int) (xss : List (List Int)) : Int := if tripB n xss = true then (if n + 1 ≤ 10 then 0 else 5) else 1
theorem tl_no {n : Int} {xss : List (List Int)} (h : tripB n xss = false) : TripleLoop_0 n xss = [] ∧ TripleLoop_1 n xss = 1 := by
  unfold TripleLoop_0 TripleLoop_1; rw [h]; exact ⟨rfl, rfl⟩
theorem tl_full {n : Int} {xss : List (List Int)} (h : tripB n xss = true) (h2 : ¬ n + 1 ≤ 10) : TripleLoop_0 n xss = [] ∧ TripleLoop_1 n xss = 5 := by
  unfold TripleLoop_0 TripleLoop_1; rw [h, if_pos rfl, if_pos rfl, if_neg h2, if_neg h2]; exact ⟨rfl, rfl⟩
theorem tl_ok {N : Nat} {xss : List (List Int)} (h : tripB N xss = true) (h2 : N + 1 ≤ 10) : TripleLoop_0 N xss = gridL (N + 1) (N + 1) (tlF N xss) ∧ TripleLoop_1 N xss = 0 := by
  unfold TripleLoop_0 TripleLoop_1; rw [h, if_pos rfl, if_pos rfl, if_pos (by omega), if_pos (by omega), Int.toNat_natCast]; exact ⟨rfl, rfl⟩
theorem lenTripleLoop_0 (n : Int) (xss : List (List Int)) : tot (TripleLoop_0 n xss) ≤ 2000000 := by
  cases h : tripB n xss with
  | false => rw [(tl_no h).1]; exact Nat.zero_le _
  | true =>
    obtain ⟨N, rfl, -⟩ := of_tripB h
    by_cases c : N + 1 ≤ 10
    · rw [(tl_ok h c).1, tot_gridL]
      have : (N + 1) * (N + 1) ≤ 10 * 10 := Nat.mul_le_mul c c
      omega
    · rw [(tl_full h (by omega)).1]; exact Nat.zero_le _

set_option maxRecDepth 100000 in
set_option maxHeartbeats 4000000 in
theorem iLoopFn (w : World) (N : Nat) (sa : Option Addr) (sl sc b k : Nat) (xss : List (List Int)) (Q : Int → Int → Prop) (h : MapT w b k (fun x y => thirdI x y xss) Q) (p J : Nat)
    (cp : w.cell? ⟨p, 0, none⟩ = some (.int .i64 N)) (cJ : w.heap[J]? = some (.cells #[.int .i64 N, .slice sa sl sc, .map (some b)] 47 (0, 0))) (x y : Nat) (hq : x ≠ y → x ≠ N → y ≠ N → Q x y) :
    Calls Tryd.prog 37 #[.int .i64 (x : Int), .int .i64 (y : Int), .pointer (some ⟨p, 0, none⟩), .pointer (some ⟨J, 0, none⟩)] w fun e w' => e = .returned (.int .i64 (tlF N xss x y)) ∧ Below w.heap.size w w' := by
  have B0 : Hid (Below w.heap.size w w) := Below.refl _ _
  obtain ⟨e0, e1, e2, -, -, -⟩ := cells3 w J _ _ _ _ cJ
  by_cases c : x = y
  · subst c
    have V : Hid (tlF N xss x x = N) := by unfold Hid tlF; rw [if_pos rfl]
    have t1 : ((x : Int) == (x : Int)) = true := by simp
    have t2 : (x == x) = true := by simp
    clear h hq cJ
    go_enter Tryd.func37, Tryd.ntmps37
    go_wp2
    go_ret
    exact ⟨by rw [V.out]; rfl, B0.out⟩
  · have t1 : ((x : Int) == (y : Int)) = false := by simp; omega
    have t2 : (x == y) = false := by simpa using c
    by_cases c1 : x = N
    · have V : Hid (tlF N xss x y = y) := by unfold Hid tlF; rw [if_neg c, if_pos c1]
      have t3 : ((x : Int) == (N : Int)) = true := by simp; omega
      have t4 : (x == N) = true := by simpa using c1
      have c1 := Lib.hid c1
      clear h hq cJ
      go_enter Tryd.func37, Tryd.ntmps37
      go_wp2
      go_ret
      exact ⟨by rw [V.out]; rfl, B0.out⟩
    · have t3 : ((x : Int) == (N : Int)) = false := by simp; omega
      have t4 : (x == N) = false := by simpa using c1
      by_cases c2 : y = N
      · have V : Hid (tlF N xss x y = x) := by unfold Hid tlF; rw [if_neg c, if_neg c1, if_pos c2]
        have t5 : ((y : Int) == (N : Int)) = true := by simp; omega
        have t6 : (y == N) = true := by simpa using c2
        have c2 := Lib.hid c2
        clear h hq cJ
        go_enter Tryd.func37, Tryd.ntmps37
        go_wp2
        go_ret
        exact ⟨by rw [V.out]; rfl, B0.out⟩
      · have V : Hid (tlF N xss x y = thirdI x y xss) := by unfold Hid tlF; rw [if_neg c, if_neg c1, if_neg c2]
        have t5 : ((y : Int) == (N : Int)) = false := by simp; omega
        have t6 : (y == N) = false := by simpa using c2
        have HT := Lib.hid (iThird w N sa sl sc b k _ Q h x y (hq c c1 c2))
        clear h hq cJ c c1 c2
        go_enter Tryd.func37, Tryd.ntmps37
        go_wp2_with fail
        refine HT.out.mono ?_
        rintro e w3 ⟨rfl, b3⟩
        have b3 := Lib.hid b3
        go_wp2
        go_ret
        exact ⟨by rw [V.out]; rfl, b3.out⟩

set_option maxRecDepth 100000 in
set_option maxHeartbeats 4000000 in
theorem iTripleLoop (n : Int) (xss : List (List Int)) (hx : xss.length ≤ 1048576) (w : World) (v : Value) (hv : RowsAt w v xss) (ht : Tab w) :
    Calls Tryd.prog 21 #[.agg #[.int .i64 n, v]] w fun e w' => ∃ r, e = .returned (.tuple #[r, .int .i64 (TripleLoop_1 n xss)]) ∧ RowsL w' w.heap.size w'.heap.size r (TripleLoop_0 n xss) ∧ Below w.heap.size w w' := by
  obtain ⟨va, cap, rfl, -⟩ := hv.shape
  obtain ⟨m, hm⟩ : ∃ m, xss.length = m := ⟨_, rfl⟩
  rw [hm] at hv ⊢
  obtain ⟨B, hB⟩ : ∃ B, w.heap.size = B := ⟨_, rfl⟩
  have hpos : 0 < B := by rw [← hB]; exact ht.pos
  obtain ⟨w1, hw1⟩ : ∃ w1, w.alloc (.cells #[.int .i64 n, .slice va m cap] 27) = w1 := ⟨_, rfl⟩
  have z1 : w1.heap.size = B + 1 := by rw [← hw1, World.size_alloc, hB]
  have b1 : Below B w w1 := by rw [← hw1]; exact (Below.refl _ _).alloc (by omega) _
  have A1 : w1.heap[B]? = some (.cells #[.int .i64 n, .slice va m cap] 27 (0, 0)) := by rw [← hw1, ← hB]; exact heap_alloc_new _ _
  have c0 : w1.cell? ⟨B, 0, none⟩ = some (.int .i64 n) := by rw [cell_of_row w1 B 0 _ _ _ A1]; rfl
  have c1 : w1.cell? ⟨B, 1, none⟩ = some (.slice va m cap) := by rw [cell_of_row w1 B 1 _ _ _ A1]; rfl
  have HO := Lib.hid (iTs n xss hx w1 _ (hv.below b1 (by omega)) (ht.below b1 hpos))
  rw [z1] at HO
  have HB := Lib.hid hB
  have B1 := Lib.hid b1
  clear hv A1 b1 z1 ht
  cases hp : tripB n xss with
  | false =>
    obtain ⟨V0, V1⟩ := tl_no hp
    have V0 := Lib.hid V0
    have V1 := Lib.hid V1
    rw [hp] at HO
    clear hp
    go_enter Tryd.func21, Tryd.ntmps21
    go_wp2_with fail
    try rw [hw1]
    refine HO.out.mono ?_
    rintro e w3 ⟨z, rfl, ⟨hz, -⟩, b3⟩
    have hz := hz rfl
    unfold tsZ at hz
    rw [hz]
    clear hz
    have B3 : Below B w w3 := B1.out.trans (b3.mono (by omega))
    have BA : Hid (∀ cs T, Below B w (w3.alloc (.cells cs T))) := fun cs T => B3.alloc (by have := B3.size; omega) _
    clear b3 B3 c0 c1
    go_wp2
    go_ret2
    exact ⟨_, by rw [V1.out]; rfl, by rw [V0.out]; exact RowsL.nil _ _ _ (Nat.le_refl _), by rw [HB.out]; exact BA.out _ _⟩
  | true =>
    obtain ⟨N, rfl, hT⟩ := of_tripB hp
    have n32 : (N : Int) ≤ 32 := hT.des.2.1
    have HT := Lib.hid hT
    have wn := IntWalk.i64_in ((N : Int) + 1) (by omega)
    rw [hp] at HO
    by_cases k : N + 1 ≤ 10
    · obtain ⟨V0, V1⟩ := tl_ok hp k
      have V0 := Lib.hid V0
      have V1 := Lib.hid V1
      have t1 : decide ((N : Int) + 1 > 10) = false := decide_eq_false (by omega)
      have t2 : decide ((10 : Int) < (N : Int) + 1) = false := decide_eq_false (by omega)
      have t3 : decide (10 < N + 1) = false := decide_eq_false (by omega)
      clear hp hT
      go_enter Tryd.func21, Tryd.ntmps21
      go_wp2_with fail
      try rw [hw1]
      refine HO.out.mono ?_
      rintro e w3 ⟨z, rfl, ⟨-, hz⟩, b3⟩
      obtain ⟨g, S, bm, rfl, hg, hbm, hU, hS, hM⟩ := hz rfl
      rw [hm] at hM ⊢
      have B3 : Below B w w3 := B1.out.trans (b3.mono (by omega))
      have s3 : B ≤ w3.heap.size := by have := B3.size; omega
      obtain ⟨w4, hw4⟩ : ∃ w4, w3.alloc (.cells #[.int .i64 (N : Int), .slice (some ⟨g, 0, none⟩) m m, .map (some bm)] 47) = w4 := ⟨_, rfl⟩
      have b34 : Below w3.heap.size w3 w4 := by rw [← hw4]; exact (Below.refl _ _).alloc (Nat.le_refl _) _
      have B4 : Below B w w4 := B3.trans (b34.mono (by omega))
      have N4 : w4.heap[w3.heap.size]? = some (.cells #[.int .i64 (N : Int), .slice (some ⟨g, 0, none⟩) m m, .map (some bm)] 47 (0, 0)) := by rw [← hw4]; exact heap_alloc_new _ _
      have z4 : w4.heap.size = w3.heap.size + 1 := by rw [← hw4, World.size_alloc]
      obtain ⟨w5, hw5⟩ : ∃ w5, w4.alloc (.cells #[.int .i64 (N : Int)] 2) = w5 := ⟨_, rfl⟩
      have b45 : Below w4.heap.size w4 w5 := by rw [← hw5]; exact (Below.refl _ _).alloc (Nat.le_refl _) _
      have B5 : Hid (Below B w w5) := B4.trans (b45.mono (by omega))
      have N5 := (b45.block w3.heap.size (by omega)).trans N4
      have U5 : w5.heap[w4.heap.size]? = some (.cells #[.int .i64 (N : Int)] 2 (0, 0)) := by rw [← hw5]; exact heap_alloc_new _ _
      have M5 := (hM.below b34 hM.lt).below b45 (Nat.lt_of_lt_of_le hM.lt (by omega))
      obtain ⟨J, hJ⟩ : ∃ J, w3.heap.size = J := ⟨_, rfl⟩
      rw [hJ] at N4 N5 z4
      rw [z4] at U5
      have u5 : w5.cell? ⟨J + 1, 0, none⟩ = some (.int .i64 (N : Int)) := by rw [cell_of_row w5 _ 0 _ _ _ U5]; rfl
      have z5 : w5.heap.size = J + 2 := by rw [← hw5, World.size_alloc, z4]
      obtain ⟨e0, e1, e2, -, -, -⟩ := cells3 w4 _ _ _ _ _ N4
      have hcf : ∀ args W, (callFunc 37 args).run Tryd.prog W = .ok (.enter 37 args) W := enters_of Tryd.func37 (by kernel_rfl) rfl
      have HF := Lib.hid (ifilld2 (N + 1) k w5 (.func (.func 37) #[] #[.pointer (some ⟨J + 1, 0, none⟩), .pointer (some ⟨J, 0, none⟩)]) (tlF N xss)
        ⟨_, _, _, rfl, hcf, fun W x y hb hx hy => iLoopFn W N (some ⟨g, 0, none⟩) m m bm _ xss _ (M5.below hb M5.lt) (J + 1) J ((hb.cell (p := ⟨J + 1, 0, none⟩) (by show J + 1 < w5.heap.size; omega)).trans u5) ((hb.block J (by omega)).trans N5) x y (fun hne h1 h2 => by have := InP_of HT.out (twoB_nat (N := N) (x := x) (y := y) (by omega) (by omega) hne); rwa [hm] at this)⟩)
      rw [show (((N + 1 : Nat)) : Int) = (N : Int) + 1 from rfl] at HF
      have st := fun W : World => stores_newSq W (sqC (N + 1) (sqF (N + 1) (tlF N xss)))
      have H2 : Hid (∀ W : World, SqAt (W.alloc (.cells (iar 101 (sqC (N + 1) (sqF (N + 1) (tlF N xss)))) 60)) W.heap.size (N + 1) (sqF (N + 1) (tlF N xss))) := fun W => by unfold SqAt Ia; exact heap_alloc_new _ _
      clear b3 hz hU hS hM B3 b34 N4 c0 c1 M5 s3 b45 B4 N5 U5
      obtain ⟨F, hF⟩ : ∃ F, sqF (N + 1) (tlF N xss) = F := ⟨_, rfl⟩
      have HG : Hid (gridL (N + 1) (N + 1) F = gridL (N + 1) (N + 1) (tlF N xss)) := by rw [← hF]; exact gridL_sqF _ _
      simp only [hF] at HF st H2
      clear hF
      go_wp2_with fail
      try rw [hJ]
      try rw [hw4]
      try rw [hw5]
      refine HF.out.mono ?_
      rintro e w6 ⟨rfl, b6⟩
      have B6 : Hid (Below B w w6) := B5.out.trans (b6.mono (by have := B5.out.size; omega))
      have s6 : Hid (B ≤ w6.heap.size) := by have := B6.out.size; have := HB.out; unfold Hid; omega
      have st6 := st w6
      have H6 := Lib.hid (H2.out w6)
      obtain ⟨w7, hw7⟩ : ∃ w7, w6.alloc (.cells (iar 101 (sqC (N + 1) F)) 60) = w7 := ⟨_, rfl⟩
      have B7 : Hid (Below B w w7) := by unfold Hid; rw [← hw7]; exact B6.out.alloc s6.out _
      rw [hw7] at st6 H6
      have s7 : Hid (B ≤ w7.heap.size) := by have := B7.out.size; have := HB.out; unfold Hid; omega
      have HR := Lib.hid (irows2 (N + 1) k w7 F)
      clear b6 st H2
      go_upto_region 8 with fail
      refine wp_region_list ?_
      refine wpList_load_row rfl 60 (.tmp 7) rfl _ rfl _ _ _ _ H6.out Tryd.underlying60 rfl (by rw [iar_size]; exact Tryd.infoSq) ?_
      go_wp2_with fail
      refine HR.out.mono ?_
      rintro e w8 ⟨r, rfl, hR, b8⟩
      have B8 : Hid (Below B w w8) := B7.out.trans (b8.mono s7.out)
      have R8 := Lib.hid (hR.mono s7.out (Nat.le_refl _) (Nat.le_refl _))
      rw [HG.out] at R8
      obtain ⟨ra, rc, rfl, -⟩ := hR.at.shape
      clear hR b8
      go_wp2
      go_ret2
      exact ⟨_, by rw [V1.out]; rfl, by rw [V0.out, HB.out]; exact R8.out, by rw [HB.out]; exact B8.out⟩
    · obtain ⟨V0, V1⟩ := tl_full hp (by omega)
      have V0 := Lib.hid V0
      have V1 := Lib.hid V1
      have t1 : decide ((N : Int) + 1 > 10) = true := decide_eq_true (by omega)
      have t2 : decide ((10 : Int) < (N : Int) + 1) = true := decide_eq_true (by omega)
      have t3 : decide (10 < N + 1) = true := decide_eq_true (by omega)
      clear hp hT k
      go_enter Tryd.func21, Tryd.ntmps21
      go_wp2_with fail
      try rw [hw1]
      refine HO.out.mono ?_
      rintro e w3 ⟨z, rfl, ⟨-, hz⟩, b3⟩
      obtain ⟨g, S, bm, rfl, hg, hbm, hU, hS, hM⟩ := hz rfl
      rw [hm]
      have B3 : Below B w w3 := B1.out.trans (b3.mono (by omega))
      obtain ⟨w4, hw4⟩ : ∃ w4, w3.alloc (.cells #[.int .i64 (N : Int), .slice (some ⟨g, 0, none⟩) m m, .map (some bm)] 47) = w4 := ⟨_, rfl⟩
      have B4 : Below B w w4 := by rw [← hw4]; exact B3.alloc (by have := B3.size; omega) _
      have N4 : w4.heap[w3.heap.size]? = some (.cells #[.int .i64 (N : Int), .slice (some ⟨g, 0, none⟩) m m, .map (some bm)] 47 (0, 0)) := by rw [← hw4]; exact heap_alloc_new _ _
      obtain ⟨e0, e1, e2, -, -, -⟩ := cells3 w4 _ _ _ _ _ N4
      have BA : Hid (∀ cs T, Below B w (w4.alloc (.cells cs T))) := fun cs T => B4.alloc (by have := B4.size; omega) _
      clear b3 hz hU hS hM B3 N4 c0 c1 B4
      go_wp2
      try rw [hw4]
      go_ret2
      exact ⟨_, by rw [V1.out]; rfl, by rw [V0.out]; exact RowsL.nil _ _ _ (Nat.le_refl _), by rw [HB.out]; exact BA.out _ _⟩

/-! TripleLoop: the model's. -/
section
open Go.RowKit Go.Shelf
set_option linter.unusedVariables false
set_option linter.unusedSimpArgs false

/-- What is right ahead of the row x. -/
def Lo (N x : Nat) (t f : Nat → Nat → Int) : Prop := ∀ p q, (q = N ∧ p < x ∨ p = N ∧ q < x ∨ p < x ∧ q < N) → f p q = t p q
/-- .. in the row x, ahead of the column y. -/
def Li (N x y : Nat) (t f : Nat → Nat → Int) : Prop := ∀ p q, (q = N ∧ p < x + 1 ∨ p = N ∧ q < x + 1 ∨ p < x ∧ q < N ∨ p = x ∧ q < y) → f p q = t p q
theorem upd2_at (f : Nat → Nat → Int) (x y p q : Nat) (v : Int) : upd2 f x y v p q = if p = x ∧ q = y then v else f p q := rfl
theorem Lo.first {N x : Nat} {t f : Nat → Nat → Int} (h : Lo N x t f) (h1 : t x N = x) (h2 : t N x = x) (hN : x = N → t N N = N) : Li N x 0 t (upd2 (upd2 f x N x) N x x) := fun p q hc => by
  rw [upd2_at]
  by_cases c : p = N ∧ q = x
  · rw [if_pos c, c.1, c.2, h2]
  · rw [if_neg c, upd2_at]
    by_cases c2 : p = x ∧ q = N
    · rw [if_pos c2, c2.1, c2.2, h1]
    · rw [if_neg c2]
      exact h p q (by omega)
theorem Li.next {N x y : Nat} {t f : Nat → Nat → Int} (h : Li N x y t f) {z : Int} (hz : t x y = z) : Li N x (y + 1) t (upd2 f x y z) := fun p q hc => by
  rw [upd2_at]
  by_cases c : p = x ∧ q = y
  · rw [if_pos c, c.1, c.2, hz]
  · rw [if_neg c]
    exact h p q (by omega)
theorem Li.row {N x : Nat} {t f : Nat → Nat → Int} (h : Li N x N t f) : Lo N (x + 1) t f := fun p q hc => h p q (by omega)
theorem Li.last {N : Nat} {t f : Nat → Nat → Int} (h : Li N N 0 t f) : Lo N (N + 1) t f := fun p q hc => h p q (by omega)
theorem Lo.all {N : Nat} {t f : Nat → Nat → Int} (h : Lo N (N + 1) t f) : gridL (N + 1) (N + 1) f = gridL (N + 1) (N + 1) t := gridL_congr fun p q hp hq => h p q (by omega)
theorem Lo.start (N : Nat) (t f : Nat → Nat → Int) : Lo N 0 t f := fun p q hc => by omega

set_option maxRecDepth 100000 in
set_option maxHeartbeats 4000000 in
theorem sTripleLoop (n : Int) (xss : List (List Int)) (w : World) (v : Value) (hv : RowsAt w v xss) :
    Calls Tryd.prog 20 #[.agg #[.int .i64 n, v]] w fun e w' => ∃ r, e = .returned (.tuple #[r, .int .i64 (TripleLoop_1 n xss)]) ∧ RowsAt w' r (TripleLoop_0 n xss) ∧ Below w.heap.size w w' := by
  obtain ⟨va, cap, rfl, -⟩ := hv.shape
  obtain ⟨m, hm⟩ : ∃ m, xss.length = m := ⟨_, rfl⟩
  rw [hm] at hv ⊢
  obtain ⟨B, hB⟩ : ∃ B, w.heap.size = B := ⟨_, rfl⟩
  obtain ⟨w1, hw1⟩ : ∃ w1, w.alloc (.cells #[.int .i64 n, .slice va m cap] 27) = w1 := ⟨_, rfl⟩
  have z1 : w1.heap.size = B + 1 := by rw [← hw1, World.size_alloc, hB]
  have b1 : Below B w w1 := by rw [← hw1]; exact (Below.refl _ _).alloc (by omega) _
  have A1 : w1.heap[B]? = some (.cells #[.int .i64 n, .slice va m cap] 27 (0, 0)) := by rw [← hw1, ← hB]; exact heap_alloc_new _ _
  have c0 : w1.cell? ⟨B, 0, none⟩ = some (.int .i64 n) := by rw [cell_of_row w1 B 0 _ _ _ A1]; rfl
  have c1 : w1.cell? ⟨B, 1, none⟩ = some (.slice va m cap) := by rw [cell_of_row w1 B 1 _ _ _ A1]; rfl
  have hv1 := hv.below b1 (by omega)
  have HO := Lib.hid (s11Ok n xss w1 _ B c0 c1 hv1)
  have HC := Lib.hid (fun W (hb : Below (B + 1) w1 W) => (show W.cell? ⟨B, 0, none⟩ = some (.int .i64 n) from (hb.cell (p := ⟨B, 0, none⟩) (Nat.lt_succ_self B)).trans c0))
  have HT := Lib.hid (fun (N : Nat) (hT : IsT N xss) a b (sa : Sm a) (sb : Sm b) W (hb : Below (B + 1) w1 W) => s11Third N xss hT a b sa sb W _ B ((hb.cell (p := ⟨B, 1, none⟩) (Nat.lt_succ_self B)).trans c1) (hv1.below hb (Nat.le_of_eq z1)))
  rw [z1] at HO
  have HB := Lib.hid hB
  have B1 := Lib.hid b1
  clear hv A1 b1 z1 c0 c1 hv1
  cases hp : tripB n xss with
  | false =>
    obtain ⟨V0, V1⟩ := tl_no hp
    have V0 := Lib.hid V0
    have V1 := Lib.hid V1
    rw [hp] at HO
    clear hp HT HC
    go_enter Tryd.func20, Tryd.ntmps20
    go_wp2_with fail
    try rw [hw1]
    refine HO.out.mono ?_
    rintro e w3 ⟨rfl, b3⟩
    have B3 : Hid (Below B w w3) := B1.out.trans (b3.mono (by omega))
    clear b3
    go_wp2
    go_ret2
    exact ⟨_, by rw [V1.out]; rfl, by rw [V0.out]; exact RowsAt.nil _ _ _, by rw [HB.out]; exact B3.out⟩
  | true =>
    obtain ⟨N, rfl, hT⟩ := of_tripB hp
    have h2 := hT.two
    have n32 : (N : Int) ≤ 32 := hT.des.2.1
    have wn := IntWalk.i64_in ((N : Int) + 1) (by omega)
    have HT := Lib.hid (HT.out N hT)
    rw [hp] at HO
    by_cases k : N + 1 ≤ 10
    · obtain ⟨V0, V1⟩ := tl_ok hp k
      have V0 := Lib.hid V0
      have V1 := Lib.hid V1
      have t1 : decide ((N : Int) + 1 > 10) = false := decide_eq_false (by omega)
      have t2 : decide ((10 : Int) < (N : Int) + 1) = false := decide_eq_false (by omega)
      have t3 : decide (10 < N + 1) = false := decide_eq_false (by omega)
      have wn2 : IntKind.i64.wrap ((N : Int) + 1 - 1) = N := by rw [show (N : Int) + 1 - 1 = N by omega]; exact IntWalk.i64_in _ (by omega)
      have wn3 := IntWalk.i64_in (N : Int) (by omega)
      have HZ := Lib.hid (fun W => sZero (N + 1) (N + 1) (by omega) (by omega) W)
      rw [show (((N + 1 : Nat)) : Int) = (N : Int) + 1 from rfl] at HZ
      have TX : Hid (∀ x : Nat, x ≤ N → tlF N xss x N = x ∧ tlF N xss N x = x) := fun x hx => by
        unfold tlF
        by_cases c : x = N
        · subst c; rw [if_pos rfl]; exact ⟨rfl, rfl⟩
        · rw [if_neg c, if_neg c, if_pos rfl, if_neg (fun h => c h.symm), if_pos rfl]; exact ⟨rfl, rfl⟩
      have TE : Hid (∀ x : Nat, tlF N xss x x = N) := fun x => by unfold tlF; rw [if_pos rfl]
      have TN : Hid (∀ x y : Nat, x ≠ y → x < N → y < N → thirdI x y xss = tlF N xss x y) := fun x y h h1 h2 => by unfold tlF; rw [if_neg h, if_neg (by omega), if_neg (by omega)]
      obtain ⟨T, hF⟩ : ∃ T, tlF N xss = T := ⟨_, rfl⟩
      rw [hF] at V0
      simp only [hF] at TX TE TN
      clear hp hT hF
      go_enter Tryd.func20, Tryd.ntmps20
      go_wp2_with fail
      try rw [hw1]
      refine HO.out.mono ?_
      rintro e w3 ⟨rfl, b3⟩
      have b3 := Lib.hid b3
      have c3 := HC.out w3 b3.out
      have s3 : Hid (B + 1 ≤ w3.heap.size) := by unfold Hid; have := b3.out.size; have e1 : w1.heap.size = B + 1 := by rw [← hw1, World.size_alloc, HB.out]
                                                 omega
      go_wp2_with fail
      refine (HZ.out _).mono ?_
      rintro e w4 ⟨v4, rfl, r4, b4⟩
      obtain ⟨g0, cg, rfl⟩ := r4.parts (show 1 ≤ N + 1 by omega)
      have b14 : Hid (Below (B + 1) w1 w4) := b3.out.trans (b4.mono s3.out)
      obtain ⟨Y, hY⟩ : ∃ Y, w3.heap.size = Y := ⟨_, rfl⟩
      obtain ⟨Z, hZ⟩ : ∃ Z, w4.heap.size = Z := ⟨_, rfl⟩
      rw [hY, hZ] at r4
      have sY : Hid (B + 1 ≤ Y) := by rw [← hY]; exact s3
      have R4 := Lib.hid r4
      have z4 : Hid (w4.heap.size = Z) := hZ
      have L4 := Lib.hid (Lo.start N T (fun _ _ => 0))
      clear r4 b4 hY hZ HZ HO c3 b3 s3
      go_wp2
      go_loopw [6] (fun i wr => ∃ x : Nat, x ≤ N + 1 ∧ i = .int .i64 x ∧ (∃ f, Hid (RowsL wr Y Z (.slice (some ⟨g0, 0, none⟩) (N + 1) cg) (gridL (N + 1) (N + 1) f)) ∧ Hid (Lo N x T f)) ∧ Hid (Below (B + 1) w1 wr) ∧ Hid (wr.heap.size = Z)) (fun i _ => (N + 1) - (intOf i).toNat)
      case atStart => exact ⟨0, by omega, rfl, ⟨_, R4, L4⟩, b14, z4⟩
      case round =>
        obtain ⟨x, hx, rfl, ⟨f, hR, hL⟩, hBl, hz⟩ := hrel
        by_cases c : x < N + 1
        · have k1 : decide (x < N + 1) = true := by simpa using c
          have k1' : decide ((x : Int) < (N : Int) + 1) = true := decide_eq_true (by omega)
          have w5 := IntWalk.i64_in ((x : Int) + 1) (by omega)
          have x0 : (0 : Int) ≤ (x : Int) := by omega
          have x1 : (x : Int) < (N : Int) + 1 := by omega
          have x2 : (N : Int) < (N : Int) + 1 := by omega
          have x3 : (0 : Int) ≤ (N : Int) := by omega
          obtain ⟨wq, rfl⟩ : ∃ wq : World, wq = wr := ⟨_, rfl⟩
          obtain ⟨g0', c0', g, cc, e0, d1, d2, d3, d4, d5, d6⟩ := gridSet hR.out c (show N < N + 1 by omega)
          simp only [Value.slice.injEq, Option.some.injEq, Addr.mk.injEq] at e0
          obtain ⟨⟨rfl, -⟩, -, rfl⟩ := e0
          obtain ⟨wa, hwa⟩ : ∃ wa, wq.setCell ⟨g, N, none⟩ (.int .i64 x) = wa := ⟨_, rfl⟩
          have Sa : RowsL wa Y Z (.slice (some ⟨g0, 0, none⟩) (N + 1) cg) (gridL (N + 1) (N + 1) (upd2 f x N (x : Int))) := by rw [← hwa]; exact d6 (x : Int)
          have Ba : Below (B + 1) w1 wa := by rw [← hwa]; exact hBl.out.setCell (p := ⟨g, N, none⟩) (by have := sY.out; show B + 1 ≤ g; omega) _
          have za : wa.heap.size = Z := by rw [← hz.out, ← hwa]; simp [World.setCell]
          obtain ⟨p0', q0', g2, cq, e0, m1, m2, m3, m4, m5, m6⟩ := gridSet Sa (show N < N + 1 by omega) c
          simp only [Value.slice.injEq, Option.some.injEq, Addr.mk.injEq] at e0
          obtain ⟨⟨rfl, -⟩, -, rfl⟩ := e0
          obtain ⟨wb, hwb⟩ : ∃ wb, wa.setCell ⟨g2, x, none⟩ (.int .i64 x) = wb := ⟨_, rfl⟩
          have Sb : Hid (RowsL wb Y Z (.slice (some ⟨g0, 0, none⟩) (N + 1) cg) (gridL (N + 1) (N + 1) (upd2 (upd2 f x N (x : Int)) N x (x : Int)))) := by rw [← hwb]; exact m6 (x : Int)
          have Bb : Hid (Below (B + 1) w1 wb) := by rw [← hwb]; exact Ba.setCell (p := ⟨g2, x, none⟩) (by have := sY.out; show B + 1 ≤ g2; omega) _
          have zb : Hid (wb.heap.size = Z) := by unfold Hid; rw [← za, ← hwb]; simp [World.setCell]
          have Lb : Hid (Li N x 0 T (upd2 (upd2 f x N (x : Int)) N x (x : Int))) := hL.out.first (TX.out x (by omega)).1 (TX.out x (by omega)).2 (fun _ => TE.out N)
          clear Sa Ba za d6 m6 hBl hR hz hL
          go_wp2
          try rw [hwa]
          try rw [hwb]
          go_loopw [7] (fun i wr => ∃ y : Nat, y ≤ N ∧ i = .int .i64 y ∧ (x = N → y = 0) ∧ (∃ f, Hid (RowsL wr Y Z (.slice (some ⟨g0, 0, none⟩) (N + 1) cg) (gridL (N + 1) (N + 1) f)) ∧ Hid (Li N x y T f)) ∧ Hid (Below (B + 1) w1 wr) ∧ Hid (wr.heap.size = Z)) (fun i _ => N - (intOf i).toNat)
          case atStart => exact ⟨0, by omega, rfl, fun _ => rfl, ⟨_, Sb, Lb⟩, Bb, zb⟩
          case round =>
            obtain ⟨y, hy, rfl, hxy, ⟨f, hR2, hL2⟩, hBl2, hz2⟩ := hrel
            clear d1 d2 d3 m1 m2 m3
            by_cases c2 : y < N ∧ x < N
            · obtain ⟨c2, c3⟩ := c2
              have k2 : decide (y < N) = true := by simpa using c2
              have k2' : decide ((y : Int) < (N : Int)) = true := decide_eq_true (by omega)
              have k3 : decide (x < N) = true := by simpa using c3
              have k3' : decide ((x : Int) < (N : Int)) = true := decide_eq_true (by omega)
              have w6 := IntWalk.i64_in ((y : Int) + 1) (by omega)
              have y0 : (0 : Int) ≤ (y : Int) := by omega
              have y1 : (y : Int) < (N : Int) + 1 := by omega
              have cy : y < N + 1 := by omega
              have HX : Hid (x = N → y + 1 = 0) := fun h => by omega
              obtain ⟨g0', c0', ga, cc, e0, d1, d2, d3, d4, d5, d6⟩ := gridSet hR2.out c cy
              simp only [Value.slice.injEq, Option.some.injEq, Addr.mk.injEq] at e0
              obtain ⟨⟨rfl, -⟩, -, rfl⟩ := e0
              obtain ⟨wa, hwa⟩ : ∃ wa, wr.setCell ⟨ga, y, none⟩ (.int .i64 N) = wa := ⟨_, rfl⟩
              have Sa : RowsL wa Y Z (.slice (some ⟨g0, 0, none⟩) (N + 1) cg) (gridL (N + 1) (N + 1) (upd2 f x y (N : Int))) := by rw [← hwa]; exact d6 (N : Int)
              have Ba : Below (B + 1) w1 wa := by rw [← hwa]; exact hBl2.out.setCell (p := ⟨ga, y, none⟩) (by have := sY.out; show B + 1 ≤ ga; omega) _
              have za : wa.heap.size = Z := by rw [← hz2.out, ← hwa]; simp [World.setCell]
              by_cases q : x = y
              · subst q
                have t4 : ((x : Int) != (x : Int)) = false := by simp
                have t5 : (x != x) = false := by simp
                have S1 := Lib.hid Sa
                have L1 : Hid (Li N x (x + 1) T (upd2 f x x (N : Int))) := hL2.out.next (TE.out x)
                have S2 := Lib.hid Ba
                have S3 := Lib.hid za
                clear Sa Ba za d6 hBl2 hR2 hz2 hL2 hxy
                go_wp2
                try rw [hwa]
                go_roundw
                case rel => exact ⟨x + 1, by omega, by go_num, HX.out, ⟨_, S1, L1⟩, S2, S3⟩
                case measure => simp [intOf]; omega
              · have t4 : ((x : Int) != (y : Int)) = true := by simp; omega
                have t5 : (x != y) = true := by simpa using q
                have HTx := Lib.hid (fun W hb => HT.out x y ⟨by omega, by omega⟩ ⟨by omega, by omega⟩ W hb)
                simp only [TN.out x y q c3 c2] at HTx
                obtain ⟨z, hzz⟩ : ∃ z, T x y = z := ⟨_, rfl⟩
                simp only [hzz] at HTx
                have LZ : Hid (Li N x (y + 1) T (upd2 f x y z)) := hL2.out.next hzz
                obtain ⟨p0', q0', gb, cq, e0, m1, m2, m3, m4, m5, m6⟩ := gridSet Sa c cy
                simp only [Value.slice.injEq, Option.some.injEq, Addr.mk.injEq] at e0
                obtain ⟨⟨rfl, -⟩, -, rfl⟩ := e0
                have gne : gb ≠ g0 := gridNe Sa c cy cy m2
                have KEY : Hid (∀ d, ((wa.drewN d).setCell ⟨gb, y, none⟩ (.int .i64 z)).cell? ⟨g0, x, none⟩ = some (.slice (some ⟨gb, 0, none⟩) (N + 1) cq) ∧
                    RowsL ((wa.drewN d).setCell ⟨gb, y, none⟩ (.int .i64 z)) Y Z (.slice (some ⟨g0, 0, none⟩) (N + 1) cg) (gridL (N + 1) (N + 1) (upd2 f x y z)) ∧ Below (B + 1) w1 ((wa.drewN d).setCell ⟨gb, y, none⟩ (.int .i64 z)) ∧ ((wa.drewN d).setCell ⟨gb, y, none⟩ (.int .i64 z)).heap.size = Z) := fun d => by
                  refine ⟨?_, ?_, ?_, ?_⟩
                  · rw [World.cell?_setCell_far _ _ _ _ (fun e => gne e)]; exact m1
                  · have := m6 z
                    rw [upd2_upd2] at this
                    exact this
                  · exact (below_drewN Ba d).setCell (p := ⟨gb, y, none⟩) (by have := sY.out; show B + 1 ≤ gb; omega) _
                  · rw [← za]; simp [World.setCell]
                have BD : Hid (Below (B + 1) w1 wa.drew) := Ba.drew
                have m1' := Lib.hid m1
                clear Sa Ba za d6 hBl2 hR2 hz2 m1 m6 hzz hL2 hxy
                go_wp2
                try rw [hwa]
                refine wp_region_held_drew (S := fun w' => w'.cell? ⟨g0, x, none⟩ = some (.slice (some ⟨gb, 0, none⟩) (N + 1) cq)) (by kernel_rfl) m1'.out (fun hHeld => ?_)
                refine wpAnyH_take (i := 0) (oi := { dst := some 64, op := Op.move (Operand.tmp 5), type := 22, pos := "l11_triples.go:159", after := #[], guard := none }) (v := ?_) rfl (by kernel_rfl) (by kernel_rfl) (by kernel_rfl) (fun _ _ _ h => h) (Or.inl ⟨by rfl, ?_⟩) (by assumption) ?_
                rotate_left
                · intro w hSw; (try dsimp only at hSw); go_simp
                  try with_reducible rfl
                simp only [Act.put, List.setIfInBounds_toArray, List.set_cons_zero, List.set_cons_succ]
                refine wpAnyH_take (i := 1) (oi := { dst := some 65, op := Op.move (Operand.tmp 6), type := 2, pos := "l11_triples.go:159", after := #[], guard := none }) (v := ?_) rfl (by kernel_rfl) (by kernel_rfl) (by kernel_rfl) (fun _ _ _ h => h) (Or.inl ⟨by rfl, ?_⟩) (by assumption) ?_
                rotate_left
                · intro w hSw; (try dsimp only at hSw); go_simp
                  try with_reducible rfl
                simp only [Act.put, List.setIfInBounds_toArray, List.set_cons_zero, List.set_cons_succ]
                refine wpAnyH_take (i := 2) (oi := { dst := some 66, op := Op.indexAddr 22 (Operand.tmp 64) (Operand.tmp 65), type := 0, pos := "l11_triples.go:159", after := #[{ on := 0, ground := Ground.data }, { on := 1, ground := Ground.data }], guard := none }) (v := ?_) rfl (by kernel_rfl) (by kernel_rfl) (by kernel_rfl) (fun _ _ _ h => h) (Or.inl ⟨by rfl, ?_⟩) (by assumption) ?_
                rotate_left
                · intro w hSw; (try dsimp only at hSw); go_simp
                  try with_reducible rfl
                simp only [Act.put, List.setIfInBounds_toArray, List.set_cons_zero, List.set_cons_succ]
                refine wpAnyH_take (i := 3) (oi := { dst := some 67, op := Op.load 55 (Operand.tmp 66), type := 55, pos := "l11_triples.go:159", after := #[{ on := 2, ground := Ground.data }], guard := none }) (v := ?_) rfl (by kernel_rfl) (by kernel_rfl) (by kernel_rfl) (fun _ _ _ h => h) (Or.inl ⟨by rfl, ?_⟩) (by assumption) ?_
                rotate_left
                · intro w hSw; (try dsimp only at hSw); go_simp
                  try with_reducible rfl
                simp only [Act.put, List.setIfInBounds_toArray, List.set_cons_zero, List.set_cons_succ]
                refine wpAnyH_take (i := 4) (oi := { dst := some 68, op := Op.move (Operand.tmp 7), type := 2, pos := "l11_triples.go:159", after := #[], guard := none }) (v := ?_) rfl (by kernel_rfl) (by kernel_rfl) (by kernel_rfl) (fun _ _ _ h => h) (Or.inl ⟨by rfl, ?_⟩) (by assumption) ?_
                rotate_left
                · intro w hSw; (try dsimp only at hSw); go_simp
                  try with_reducible rfl
                simp only [Act.put, List.setIfInBounds_toArray, List.set_cons_zero, List.set_cons_succ]
                refine wpAnyH_take (i := 5) (oi := { dst := some 69, op := Op.move (Operand.tmp 6), type := 2, pos := "l11_triples.go:159", after := #[], guard := none }) (v := ?_) rfl (by kernel_rfl) (by kernel_rfl) (by kernel_rfl) (fun _ _ _ h => h) (Or.inl ⟨by rfl, ?_⟩) (by assumption) ?_
                rotate_left
                · intro w hSw; (try dsimp only at hSw); go_simp
                  try with_reducible rfl
                simp only [Act.put, List.setIfInBounds_toArray, List.set_cons_zero, List.set_cons_succ]
                refine wpAnyH_take (i := 6) (oi := { dst := some 70, op := Op.move (Operand.tmp 7), type := 2, pos := "l11_triples.go:159", after := #[], guard := none }) (v := ?_) rfl (by kernel_rfl) (by kernel_rfl) (by kernel_rfl) (fun _ _ _ h => h) (Or.inl ⟨by rfl, ?_⟩) (by assumption) ?_
                rotate_left
                · intro w hSw; (try dsimp only at hSw); go_simp
                  try with_reducible rfl
                simp only [Act.put, List.setIfInBounds_toArray, List.set_cons_zero, List.set_cons_succ]
                refine wpAnyH_ready (rs := [7]) (by kernel_rfl) (by simp) ?_
                refine AllReadyH.cons rfl (fun K' hK' => ?_) AllReadyH.nil
                go_simp
                go_wp2_with fail
                refine (HTx.out _ BD.out).mono ?_
                rintro e w8 ⟨rfl, d, rfl⟩
                obtain ⟨n4, n5, n6, n7⟩ := KEY.out (1 + d)
                have S1 := Lib.hid n5
                have S2 := Lib.hid n6
                have S3 := Lib.hid n7
                clear n5 n6 n7
                refine hK'.out _ _ m1'.out (fun hHeld => ?_)
                clear hK' K'
                refine wpAnyH_take (i := 8) (oi := { dst := some 72, op := Op.indexAddr 55 (Operand.tmp 67) (Operand.tmp 68), type := 0, pos := "l11_triples.go:159", after := #[{ on := 3, ground := Ground.data }, { on := 4, ground := Ground.data }, { on := 0, ground := Ground.phase }, { on := 1, ground := Ground.phase }, { on := 2, ground := Ground.phase }, { on := 3, ground := Ground.phase }, { on := 4, ground := Ground.phase }, { on := 5, ground := Ground.phase }, { on := 6, ground := Ground.phase }, { on := 7, ground := Ground.phase }], guard := none }) (v := ?_) rfl (by kernel_rfl) (by kernel_rfl) (by kernel_rfl) (fun _ _ _ h => h) (Or.inl ⟨by rfl, ?_⟩) (by assumption) ?_
                rotate_left
                · intro w hSw; (try dsimp only at hSw); go_simp
                  try with_reducible rfl
                simp only [Act.put, List.setIfInBounds_toArray, List.set_cons_zero, List.set_cons_succ]
                refine wpAnyH_ready (rs := [9]) (by kernel_rfl) (by simp) ?_
                refine AllReadyH.cons rfl (fun K' hK' => ?_) AllReadyH.nil
                go_simp
                refine hK'.out _ _ n4 (fun hHeld => ?_)
                clear hK' K'
                refine wpAnyH_done (by kernel_rfl) ?_ _
                clear hHeld n4
                go_wp2
                go_roundw
                case rel => exact ⟨y + 1, by omega, by go_num, HX.out, ⟨_, S1, LZ⟩, S2, S3⟩
                case measure => simp [intOf]; omega
            · have LR : Hid (Lo N (x + 1) T f) := by
                by_cases e : x = N
                · subst e
                  have := hxy rfl
                  subst this
                  exact hL2.out.last
                · obtain rfl : y = N := by omega
                  exact hL2.out.row
              by_cases c4 : y < N
              · have k2 : decide (y < N) = true := by simpa using c4
                have k2' : decide ((y : Int) < (N : Int)) = true := decide_eq_true (by omega)
                have k3 : decide (x < N) = false := decide_eq_false (by omega)
                have k3' : decide ((x : Int) < (N : Int)) = false := decide_eq_false (by omega)
                clear c2 hxy hL2
                go_wp2
                go_roundw
                case rel => exact ⟨x + 1, by omega, by go_num, ⟨_, hR2, LR⟩, hBl2, hz2⟩
                case measure => simp [intOf]; omega
              · have k2 : decide (y < N) = false := decide_eq_false c4
                have k2' : decide ((y : Int) < (N : Int)) = false := decide_eq_false (by omega)
                clear c2 hxy hL2
                go_wp2
                go_roundw
                case rel => exact ⟨x + 1, by omega, by go_num, ⟨_, hR2, LR⟩, hBl2, hz2⟩
                case measure => simp [intOf]; omega
        · have k1 : decide (x < N + 1) = false := decide_eq_false c
          have k1' : decide ((x : Int) < (N : Int) + 1) = false := decide_eq_false (by omega)
          obtain rfl : x = N + 1 := by omega
          have hR' := hR.out
          rw [hL.out.all] at hR'
          have RR := Lib.hid hR'
          have B9 : Hid (Below B w wr) := B1.out.trans (hBl.out.mono (by omega))
          clear hR' hR hL
          go_wp2
          go_ret2
          exact ⟨_, by rw [V1.out]; rfl, by rw [V0.out]; exact RR.out.at, by rw [HB.out]; exact B9.out⟩
    · obtain ⟨V0, V1⟩ := tl_full hp (by omega)
      have V0 := Lib.hid V0
      have V1 := Lib.hid V1
      have t1 : decide ((N : Int) + 1 > 10) = true := decide_eq_true (by omega)
      have t2 : decide ((10 : Int) < (N : Int) + 1) = true := decide_eq_true (by omega)
      have t3 : decide (10 < N + 1) = true := decide_eq_true (by omega)
      clear hp hT k HT
      go_enter Tryd.func20, Tryd.ntmps20
      go_wp2_with fail
      try rw [hw1]
      refine HO.out.mono ?_
      rintro e w3 ⟨rfl, b3⟩
      have c3 := HC.out w3 b3
      have B3 : Hid (Below B w w3) := B1.out.trans (b3.mono (by omega))
      clear b3
      go_wp2
      go_ret2
      exact ⟨_, by rw [V1.out]; rfl, by rw [V0.out]; exact RowsAt.nil _ _ _, by rw [HB.out]; exact B3.out⟩
end
end Go.Proofs.YtanfodbpgpfjmabDoor
