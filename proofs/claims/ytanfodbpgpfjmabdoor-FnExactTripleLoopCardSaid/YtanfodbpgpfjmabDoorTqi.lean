/- TripleSquare: the values; the program's. -/
import Derived.Test.YtanfodbpgpfjmabDoorTpt
import Derived.Test.YtanfodbpgpfjmabDoorRws
import Derived.StillTailTactics
namespace Go.Proofs.YtanfodbpgpfjmabDoor
open Go.RowKit Go.Shelf
set_option linter.unusedVariables false
set_option linter.unusedSimpArgs false

/-- The square of a system. -/
def tsF (xss : List (List Int)) (x y : Nat) : Int := if x = y then (x : Int) else thirdI x y xss
noncomputable def TripleSquare_0 (n : Int) (xss : List (List Int)) : List (List Int) := if tripB n xss = true then (if n ≤ 10 then gridL n.toNat n.toNat (tsF xss) else []) else []
noncomputable def TripleSquare_1 (n : Int) (xss : List (List Int)) : Int := if tripB n xss = true then (if n ≤ 10 then 0 else 5) else 1
theorem ts_no {n : Int} {xss : List (List Int)} (h : tripB n xss = false) : TripleSquare_0 n xss = [] ∧ TripleSquare_1 n xss = 1 := by
  unfold TripleSquare_0 TripleSquare_1; rw [h]; exact ⟨rfl, rfl⟩
theorem ts_full {n : Int} {xss : List (List Int)} (h : tripB n xss = true) (h2 : ¬ n ≤ 10) : TripleSquare_0 n xss = [] ∧ TripleSquare_1 n xss = 5 := by
  unfold TripleSquare_0 TripleSquare_1; rw [h, if_pos rfl, if_pos rfl, if_neg h2, if_neg h2]; exact ⟨rfl, rfl⟩
theorem ts_ok {N : Nat} {xss : List (List Int)} (h : tripB N xss = true) (h2 : N ≤ 10) : TripleSquare_0 N xss = gridL N N (tsF xss) ∧ TripleSquare_1 N xss = 0 := by
  unfold TripleSquare_0 TripleSquare_1; rw [h, if_pos rfl, if_pos rfl, if_pos (by omega), if_pos (by omega), Int.toNat_natCast]; exact ⟨rfl, rfl⟩
theorem lenTripleSquare_0 (n : Int) (xss : List (List Int)) : tot (TripleSquare_0 n xss) ≤ 2000000 := by
  cases h : tripB n xss with
  | false => rw [(ts_no h).1]; exact Nat.zero_le _
  | true =>
    obtain ⟨N, rfl, -⟩ := of_tripB h
    by_cases c : N ≤ 10
    · rw [(ts_ok h c).1, tot_gridL]
      have : N * N ≤ 10 * 10 := Nat.mul_le_mul c c
      omega
    · rw [(ts_full h (by omega)).1]; exact Nat.zero_le _
theorem twoB_nat {N x y : Nat} (hx : x < N) (hy : y < N) (hne : x ≠ y) : twoB N x y = true := decide_eq_true ⟨⟨by omega, by omega⟩, ⟨by omega, by omega⟩, by omega⟩

set_option maxRecDepth 100000 in
set_option maxHeartbeats 4000000 in
theorem iProduct (w : World) (n : Int) (sa : Option Addr) (sl sc b k : Nat) (xss : List (List Int)) (Q : Int → Int → Prop) (h : MapT w b k (fun x y => thirdI x y xss) Q) (x y : Nat) (hq : x ≠ y → Q x y) :
    Calls Tryd.prog 32 #[.agg #[.int .i64 n, .slice sa sl sc, .map (some b)], .int .i64 (x : Int), .int .i64 (y : Int)] w fun e w' => e = .returned (.int .i64 (tsF xss x y)) ∧ Below w.heap.size w w' := by
  obtain ⟨B, hB⟩ : ∃ B, w.heap.size = B := ⟨_, rfl⟩
  obtain ⟨w1, hw1⟩ : ∃ w1, w.alloc (.cells #[.int .i64 n, .slice sa sl sc, .map (some b)] 47) = w1 := ⟨_, rfl⟩
  have z1 : w1.heap.size = B + 1 := by rw [← hw1, World.size_alloc, hB]
  have b1 : Below B w w1 := by rw [← hw1]; exact (Below.refl _ _).alloc (by omega) _
  have A1 : w1.heap[B]? = some (.cells #[.int .i64 n, .slice sa sl sc, .map (some b)] 47 (0, 0)) := by rw [← hw1, ← hB]; exact heap_alloc_new _ _
  have M1 := h.below b1 (by have := h.lt; omega)
  obtain ⟨e0, e1, e2, -, -, -⟩ := cells3 w1 B _ _ _ _ A1
  have HB := Lib.hid hB
  have B1 := Lib.hid b1
  by_cases c : x = y
  · subst c
    have V : Hid (tsF xss x x = x) := by unfold Hid tsF; rw [if_pos rfl]
    have t1 : ((x : Int) == (x : Int)) = true := by simp
    have t2 : (x == x) = true := by simp
    clear h b1 A1 hq M1
    go_enter Tryd.func32, Tryd.ntmps32
    go_wp2
    try rw [hw1]
    go_ret
    exact ⟨by rw [V.out]; rfl, by rw [HB.out]; exact B1.out⟩
  · have V : Hid (tsF xss x y = thirdI x y xss) := by unfold Hid tsF; rw [if_neg c]
    have t1 : ((x : Int) == (y : Int)) = false := by simp; omega
    have t2 : (x == y) = false := by simpa using c
    have HT := Lib.hid (iThird w1 n sa sl sc b k _ Q M1 x y (hq c))
    clear h b1 A1 hq M1
    go_enter Tryd.func32, Tryd.ntmps32
    go_wp2_with fail
    try rw [hw1]
    refine HT.out.mono ?_
    rintro e w3 ⟨rfl, b3⟩
    have B3 : Hid (Below B w w3) := B1.out.trans (b3.mono (by omega))
    clear b3
    go_wp2
    go_ret
    exact ⟨by rw [V.out]; rfl, by rw [HB.out]; exact B3.out⟩

set_option maxRecDepth 100000 in
set_option maxHeartbeats 4000000 in
theorem iTripleSquare (n : Int) (xss : List (List Int)) (hx : xss.length ≤ 1048576) (w : World) (v : Value) (hv : RowsAt w v xss) (ht : Tab w) :
    Calls Tryd.prog 15 #[.agg #[.int .i64 n, v]] w fun e w' => ∃ r, e = .returned (.tuple #[r, .int .i64 (TripleSquare_1 n xss)]) ∧ RowsL w' w.heap.size w'.heap.size r (TripleSquare_0 n xss) ∧ Below w.heap.size w w' := by
  obtain ⟨va, cap, rfl, -⟩ := hv.shape
  obtain ⟨m, hm⟩ : ∃ m, xss.length = m := ⟨_, rfl⟩
  rw [hm] at hv ⊢
  obtain ⟨B, hB⟩ : ∃ B, w.heap.size = B := ⟨_, rfl⟩
  have hpos : 0 < B := by rw [← hB]; exact ht.pos
  obtain ⟨w1, hw1⟩ : ∃ w1, w.alloc (.cells #[.int .i64 n, .slice va m cap] 27) = w1 := ⟨_, rfl⟩
  have z1 : w1.heap.size = B + 1 := by rw [← hw1, World.size_alloc, hB]
  have b1 : Below B w w1 := by rw [← hw1]; exact (Below.refl _ _).alloc (by omega) _
  have A1 : w1.heap[B]? = some (.cells #[.int .i64 n, .slice va m cap] 27 (0, 0)) := by rw [← hw1, ← hB]; exact heap_alloc_new _ _
  have c0 : w1.cell? ⟨B, 0, none⟩ = some (.int .i64 n) := by rw [cell_of_row w1 B 0 _ _ _ A1]; rfl
  have c1 : w1.cell? ⟨B, 1, none⟩ = some (.slice va m cap) := by rw [cell_of_row w1 B 1 _ _ _ A1]; rfl
  have HO := Lib.hid (iTs n xss hx w1 _ (hv.below b1 (by omega)) (ht.below b1 hpos))
  rw [z1] at HO
  have HB := Lib.hid hB
  have B1 := Lib.hid b1
  clear hv A1 b1 z1 ht
  cases hp : tripB n xss with
  | false =>
    obtain ⟨V0, V1⟩ := ts_no hp
    have V0 := Lib.hid V0
    have V1 := Lib.hid V1
    rw [hp] at HO
    clear hp
    go_enter Tryd.func15, Tryd.ntmps15
    go_wp2_with fail
    try rw [hw1]
    refine HO.out.mono ?_
    rintro e w3 ⟨z, rfl, ⟨hz, -⟩, b3⟩
    have hz := hz rfl
    unfold tsZ at hz
    rw [hz]
    clear hz
    have B3 : Below B w w3 := B1.out.trans (b3.mono (by omega))
    have BA : Hid (∀ cs T, Below B w (w3.alloc (.cells cs T))) := fun cs T => B3.alloc (by have := B3.size; omega) _
    clear b3 B3 c0 c1
    go_wp2
    go_ret2
    exact ⟨_, by rw [V1.out]; rfl, by rw [V0.out]; exact RowsL.nil _ _ _ (Nat.le_refl _), by rw [HB.out]; exact BA.out _ _⟩
  | true =>
    obtain ⟨N, rfl, hT⟩ := of_tripB hp
    have HT := Lib.hid hT
    rw [hp] at HO
    by_cases k : N ≤ 10
    · obtain ⟨V0, V1⟩ := ts_ok hp k
      have V0 := Lib.hid V0
      have V1 := Lib.hid V1
      have t1 : decide ((N : Int) > 10) = false := decide_eq_false (by omega)
      have t2 : decide ((10 : Int) < (N : Int)) = false := decide_eq_false (by omega)
      have t3 : decide (10 < N) = false := decide_eq_false (by omega)
      clear hp hT
      go_enter Tryd.func15, Tryd.ntmps15
      go_wp2_with fail
      try rw [hw1]
      refine HO.out.mono ?_
      rintro e w3 ⟨z, rfl, ⟨-, hz⟩, b3⟩
      obtain ⟨g, S, bm, rfl, hg, hbm, hU, hS, hM⟩ := hz rfl
      rw [hm] at hM ⊢
      have B3 : Below B w w3 := B1.out.trans (b3.mono (by omega))
      have s3 : B ≤ w3.heap.size := by have := B3.size; omega
      obtain ⟨w4, hw4⟩ : ∃ w4, w3.alloc (.cells #[.int .i64 (N : Int), .slice (some ⟨g, 0, none⟩) m m, .map (some bm)] 47) = w4 := ⟨_, rfl⟩
      have b34 : Below w3.heap.size w3 w4 := by rw [← hw4]; exact (Below.refl _ _).alloc (Nat.le_refl _) _
      have B4 : Hid (Below B w w4) := B3.trans (b34.mono (by omega))
      have N4 : w4.heap[w3.heap.size]? = some (.cells #[.int .i64 (N : Int), .slice (some ⟨g, 0, none⟩) m m, .map (some bm)] 47 (0, 0)) := by rw [← hw4]; exact heap_alloc_new _ _
      have M4 := hM.below b34 hM.lt
      obtain ⟨e0, e1, e2, -, -, -⟩ := cells3 w4 _ _ _ _ _ N4
      have hcf : ∀ args W, (callFunc 32 args).run Tryd.prog W = .ok (.enter 32 args) W := enters_of Tryd.func32 (by kernel_rfl) rfl
      have HF := Lib.hid (ifilld2 N k w4 (.func (.func 32) #[.agg #[.int .i64 (N : Int), .slice (some ⟨g, 0, none⟩) m m, .map (some bm)]] #[]) (tsF xss)
        ⟨_, _, _, rfl, hcf, fun W x y hb hx hy => iProduct W N (some ⟨g, 0, none⟩) m m bm _ xss _ (M4.below hb M4.lt) x y (fun hne => by have := InP_of HT.out (twoB_nat hx hy hne); rwa [hm] at this)⟩)
      have s4 : Hid (B ≤ w4.heap.size) := by have := B4.out.size; unfold Hid; omega
      clear b3 hz hU hS hM B3 b34 N4 c0 c1 M4 s3
      go_wp2_with fail
      try rw [hw4]
      refine HF.out.mono ?_
      rintro e w5 ⟨rfl, b5⟩
      have B5 : Hid (Below B w w5) := B4.out.trans (b5.mono s4.out)
      have s5 : Hid (B ≤ w5.heap.size) := by have := B5.out.size; have := HB.out; unfold Hid; omega
      have HR := Lib.hid (irows2 N k w5 (sqF N (tsF xss)))
      clear b5
      go_wp2_with fail
      refine HR.out.mono ?_
      rintro e w6 ⟨r, rfl, hR, b6⟩
      have B6 : Hid (Below B w w6) := B5.out.trans (b6.mono s5.out)
      have R6 := Lib.hid (hR.mono s5.out (Nat.le_refl _) (Nat.le_refl _))
      rw [gridL_sqF] at R6
      obtain ⟨ra, rc, rfl, -⟩ := hR.at.shape
      clear hR b6
      go_wp2
      go_ret2
      exact ⟨_, by rw [V1.out]; rfl, by rw [V0.out, HB.out]; exact R6.out, by rw [HB.out]; exact B6.out⟩
    · obtain ⟨V0, V1⟩ := ts_full hp (by omega)
      have V0 := Lib.hid V0
      have V1 := Lib.hid V1
      have t1 : decide ((N : Int) > 10) = true := decide_eq_true (by omega)
      have t2 : decide ((10 : Int) < (N : Int)) = true := decide_eq_true (by omega)
      have t3 : decide (10 < N) = true := decide_eq_true (by omega)
      clear hp hT k
      go_enter Tryd.func15, Tryd.ntmps15
      go_wp2_with fail
      try rw [hw1]
      refine HO.out.mono ?_
      rintro e w3 ⟨z, rfl, ⟨-, hz⟩, b3⟩
      obtain ⟨g, S, bm, rfl, hg, hbm, hU, hS, hM⟩ := hz rfl
      rw [hm]
      have B3 : Below B w w3 := B1.out.trans (b3.mono (by omega))
      obtain ⟨w4, hw4⟩ : ∃ w4, w3.alloc (.cells #[.int .i64 (N : Int), .slice (some ⟨g, 0, none⟩) m m, .map (some bm)] 47) = w4 := ⟨_, rfl⟩
      have B4 : Hid (Below B w w4) := by unfold Hid; rw [← hw4]; exact B3.alloc (by have := B3.size; omega) _
      have N4 : w4.heap[w3.heap.size]? = some (.cells #[.int .i64 (N : Int), .slice (some ⟨g, 0, none⟩) m m, .map (some bm)] 47 (0, 0)) := by rw [← hw4]; exact heap_alloc_new _ _
      obtain ⟨e0, e1, e2, -, -, -⟩ := cells3 w4 _ _ _ _ _ N4
      clear b3 hz hU hS hM B3 N4 c0 c1
      go_wp2
      try rw [hw4]
      go_ret2
      exact ⟨_, by rw [V1.out]; rfl, by rw [V0.out]; exact RowsL.nil _ _ _ (Nat.le_refl _), by rw [HB.out]; exact B4.out⟩

/-! TripleSquare: the model's. -/
section
open Go.RowKit Go.Shelf
set_option linter.unusedVariables false
set_option linter.unusedSimpArgs false

theorem upd2_upd2 (f : Nat → Nat → Int) (x y : Nat) (u v : Int) : upd2 (upd2 f x y u) x y v = upd2 f x y v := by
  funext a b
  unfold upd2
  by_cases c : a = x ∧ b = y
  · rw [if_pos c, if_pos c]
  · rw [if_neg c, if_neg c, if_neg c]
/-- The row of a cell is another block than that of the rows. -/
theorem gridNe {w : World} {B L n m x y g0 c0 g : Nat} {f : Nat → Nat → Int} (h : RowsL w B L (.slice (some ⟨g0, 0, none⟩) n c0) (gridL n m f)) (hx : x < n) (hy : y < m) (hyn : y < n)
    (hc : w.cell? ⟨g, y, none⟩ = some (.int .i64 (f x y))) : g ≠ g0 := fun e => by
  obtain ⟨p0, q0, p, q, e0, d1, -⟩ := gridSet h (x := y) (y := y) hyn hy
  simp only [Value.slice.injEq, Option.some.injEq, Addr.mk.injEq] at e0
  obtain ⟨⟨rfl, -⟩, -⟩ := e0
  rw [e, d1] at hc
  cases hc

set_option maxRecDepth 100000 in
set_option maxHeartbeats 4000000 in
theorem sTripleSquare (n : Int) (xss : List (List Int)) (w : World) (v : Value) (hv : RowsAt w v xss) :
    Calls Tryd.prog 14 #[.agg #[.int .i64 n, v]] w fun e w' => ∃ r, e = .returned (.tuple #[r, .int .i64 (TripleSquare_1 n xss)]) ∧ RowsAt w' r (TripleSquare_0 n xss) ∧ Below w.heap.size w w' := by
  obtain ⟨va, cap, rfl, -⟩ := hv.shape
  obtain ⟨m, hm⟩ : ∃ m, xss.length = m := ⟨_, rfl⟩
  rw [hm] at hv ⊢
  obtain ⟨B, hB⟩ : ∃ B, w.heap.size = B := ⟨_, rfl⟩
  obtain ⟨w1, hw1⟩ : ∃ w1, w.alloc (.cells #[.int .i64 n, .slice va m cap] 27) = w1 := ⟨_, rfl⟩
  have z1 : w1.heap.size = B + 1 := by rw [← hw1, World.size_alloc, hB]
  have b1 : Below B w w1 := by rw [← hw1]; exact (Below.refl _ _).alloc (by omega) _
  have A1 : w1.heap[B]? = some (.cells #[.int .i64 n, .slice va m cap] 27 (0, 0)) := by rw [← hw1, ← hB]; exact heap_alloc_new _ _
  have c0 : w1.cell? ⟨B, 0, none⟩ = some (.int .i64 n) := by rw [cell_of_row w1 B 0 _ _ _ A1]; rfl
  have c1 : w1.cell? ⟨B, 1, none⟩ = some (.slice va m cap) := by rw [cell_of_row w1 B 1 _ _ _ A1]; rfl
  have hv1 := hv.below b1 (by omega)
  have HO := Lib.hid (s11Ok n xss w1 _ B c0 c1 hv1)
  have HC := Lib.hid (fun W (hb : Below (B + 1) w1 W) => (show W.cell? ⟨B, 0, none⟩ = some (.int .i64 n) from (hb.cell (p := ⟨B, 0, none⟩) (Nat.lt_succ_self B)).trans c0))
  have HT := Lib.hid (fun (N : Nat) (hT : IsT N xss) a b (sa : Sm a) (sb : Sm b) W (hb : Below (B + 1) w1 W) => s11Third N xss hT a b sa sb W _ B ((hb.cell (p := ⟨B, 1, none⟩) (Nat.lt_succ_self B)).trans c1) (hv1.below hb (Nat.le_of_eq z1)))
  rw [z1] at HO
  have HB := Lib.hid hB
  have B1 := Lib.hid b1
  clear hv A1 b1 z1 c0 c1 hv1
  cases hp : tripB n xss with
  | false =>
    obtain ⟨V0, V1⟩ := ts_no hp
    have V0 := Lib.hid V0
    have V1 := Lib.hid V1
    rw [hp] at HO
    clear hp HT HC
    go_enter Tryd.func14, Tryd.ntmps14
    go_wp2_with fail
    try rw [hw1]
    refine HO.out.mono ?_
    rintro e w3 ⟨rfl, b3⟩
    have B3 : Hid (Below B w w3) := B1.out.trans (b3.mono (by omega))
    clear b3
    go_wp2
    go_ret2
    exact ⟨_, by rw [V1.out]; rfl, by rw [V0.out]; exact RowsAt.nil _ _ _, by rw [HB.out]; exact B3.out⟩
  | true =>
    obtain ⟨N, rfl, hT⟩ := of_tripB hp
    have h2 := hT.two
    have HT := Lib.hid (HT.out N hT)
    rw [hp] at HO
    by_cases k : N ≤ 10
    · obtain ⟨V0, V1⟩ := ts_ok hp k
      have V0 := Lib.hid V0
      have V1 := Lib.hid V1
      have t1 : decide ((N : Int) > 10) = false := decide_eq_false (by omega)
      have t2 : decide ((10 : Int) < (N : Int)) = false := decide_eq_false (by omega)
      have t3 : decide (10 < N) = false := decide_eq_false (by omega)
      have HZ := Lib.hid (fun W => sZero N N (by omega) (by omega) W)
      have FS : Hid (∀ x y : Nat, y < N → upd2 (fillF N (tsF xss) x y) x y (tsF xss x y) = fillF N (tsF xss) x (y + 1)) := fun x y h => fillF_step _ h
      have FR : Hid (∀ x : Nat, fillF N (tsF xss) x N = fillF N (tsF xss) (x + 1) 0) := fun x => fillF_row N _ x
      have FA : Hid (gridL N N (fillF N (tsF xss) N 0) = gridL N N (tsF xss)) := by unfold Hid; rw [fillF_all, gridL_sqF]
      have F0 : Hid (gridL N N (fillF N (tsF xss) 0 0) = gridL N N (fun _ _ => 0)) := by unfold Hid; rw [fillF_zero]
      have TE : Hid (∀ x : Nat, tsF xss x x = (x : Int)) := fun x => by unfold tsF; rw [if_pos rfl]
      have TN : Hid (∀ x y : Nat, x ≠ y → thirdI x y xss = tsF xss x y) := fun x y h => by unfold tsF; rw [if_neg h]
      obtain ⟨F, hF⟩ : ∃ F, tsF xss = F := ⟨_, rfl⟩
      rw [hF] at V0
      simp only [hF] at FS FR FA F0 TE TN
      clear hp hT hF
      go_enter Tryd.func14, Tryd.ntmps14
      go_wp2_with fail
      try rw [hw1]
      refine HO.out.mono ?_
      rintro e w3 ⟨rfl, b3⟩
      have b3 := Lib.hid b3
      have c3 := HC.out w3 b3.out
      have s3 : Hid (B + 1 ≤ w3.heap.size) := by unfold Hid; have := b3.out.size; have e1 : w1.heap.size = B + 1 := by rw [← hw1, World.size_alloc, HB.out]
                                                 omega
      go_wp2_with fail
      refine (HZ.out _).mono ?_
      rintro e w4 ⟨v4, rfl, r4, b4⟩
      obtain ⟨g0, cg, rfl⟩ := r4.parts (show 1 ≤ N by omega)
      have b14 : Hid (Below (B + 1) w1 w4) := b3.out.trans (b4.mono s3.out)
      obtain ⟨Y, hY⟩ : ∃ Y, w3.heap.size = Y := ⟨_, rfl⟩
      obtain ⟨Z, hZ⟩ : ∃ Z, w4.heap.size = Z := ⟨_, rfl⟩
      rw [hY, hZ, ← F0.out] at r4
      have sY : Hid (B + 1 ≤ Y) := by rw [← hY]; exact s3
      have R4 := Lib.hid r4
      have z4 : Hid (w4.heap.size = Z) := hZ
      clear r4 b4 hY hZ HZ HO c3 b3 s3
      go_wp2
      go_loopw [5] (fun i wr => ∃ x : Nat, x ≤ N ∧ i = .int .i64 x ∧ Hid (RowsL wr Y Z (.slice (some ⟨g0, 0, none⟩) N cg) (gridL N N (fillF N F x 0))) ∧ Hid (Below (B + 1) w1 wr) ∧ Hid (wr.heap.size = Z)) (fun i _ => N - (intOf i).toNat)
      case atStart => exact ⟨0, by omega, rfl, R4, b14, z4⟩
      case round =>
        obtain ⟨x, hx, rfl, hR, hBl, hz⟩ := hrel
        have cc0 := HC.out wr hBl.out
        by_cases c : x < N
        · have k1 : decide (x < N) = true := by simpa using c
          have k1' : decide ((x : Int) < (N : Int)) = true := decide_eq_true (by omega)
          have w5 := IntWalk.i64_in ((x : Int) + 1) (by omega)
          have x0 : (0 : Int) ≤ (x : Int) := by omega
          have x1 : (x : Int) < (N : Int) := by omega
          obtain ⟨wq, rfl⟩ : ∃ wq : World, wq = wr := ⟨_, rfl⟩
          go_wp2
          clear cc0
          go_loopw [6] (fun i wr => ∃ y : Nat, y ≤ N ∧ i = .int .i64 y ∧ Hid (RowsL wr Y Z (.slice (some ⟨g0, 0, none⟩) N cg) (gridL N N (fillF N F x y))) ∧ Hid (Below (B + 1) w1 wr) ∧ Hid (wr.heap.size = Z)) (fun i _ => N - (intOf i).toNat)
          case atStart => exact ⟨0, by omega, rfl, hR, hBl, hz⟩
          case round =>
            obtain ⟨y, hy, rfl, hR2, hBl2, hz2⟩ := hrel
            have cc0 := HC.out wr hBl2.out
            by_cases c2 : y < N
            · have k2 : decide (y < N) = true := by simpa using c2
              have k2' : decide ((y : Int) < (N : Int)) = true := decide_eq_true (by omega)
              have w6 := IntWalk.i64_in ((y : Int) + 1) (by omega)
              have y0 : (0 : Int) ≤ (y : Int) := by omega
              have y1 : (y : Int) < (N : Int) := by omega
              obtain ⟨g0', c0', g, cc, e0, d1, d2, d3, d4, d5, d6⟩ := gridSet hR2.out c c2
              simp only [Value.slice.injEq, Option.some.injEq, Addr.mk.injEq] at e0
              obtain ⟨⟨rfl, -⟩, -, rfl⟩ := e0
              obtain ⟨wa, hwa⟩ : ∃ wa, wr.setCell ⟨g, y, none⟩ (.int .i64 x) = wa := ⟨_, rfl⟩
              have Sa : RowsL wa Y Z (.slice (some ⟨g0, 0, none⟩) N cg) (gridL N N (upd2 (fillF N F x y) x y (x : Int))) := by rw [← hwa]; exact d6 (x : Int)
              have Ba : Below (B + 1) w1 wa := by rw [← hwa]; exact hBl2.out.setCell (p := ⟨g, y, none⟩) (by have := sY.out; show B + 1 ≤ g; omega) _
              have za : wa.heap.size = Z := by rw [← hz2.out, ← hwa]; simp [World.setCell]
              by_cases q : x = y
              · subst q
                have t4 : ((x : Int) != (x : Int)) = false := by simp
                have t5 : (x != x) = false := by simp
                have S1 : Hid (RowsL wa Y Z (.slice (some ⟨g0, 0, none⟩) N cg) (gridL N N (fillF N F x (x + 1)))) := by
                  have := FS.out x x c2
                  rw [TE.out] at this
                  rw [this] at Sa; exact Sa
                have S2 := Lib.hid Ba
                have S3 := Lib.hid za
                clear Sa Ba za d6 hBl2 hR2 hz2
                go_wp2
                try rw [hwa]
                go_roundw
                case rel => exact ⟨x + 1, by omega, by go_num, S1, S2, S3⟩
                case measure => simp [intOf]; omega
              · have t4 : ((x : Int) != (y : Int)) = true := by simp; omega
                have t5 : (x != y) = true := by simpa using q
                have HTx := Lib.hid (fun W hb => HT.out x y ⟨by omega, by omega⟩ ⟨by omega, by omega⟩ W hb)
                simp only [TN.out x y q] at HTx
                have fs := FS.out x y c2
                obtain ⟨z, hzz⟩ : ∃ z, F x y = z := ⟨_, rfl⟩
                simp only [hzz] at HTx
                rw [hzz] at fs
                obtain ⟨p0', q0', g2, cq, e0, m1, m2, m3, m4, m5, m6⟩ := gridSet Sa c c2
                simp only [Value.slice.injEq, Option.some.injEq, Addr.mk.injEq] at e0
                obtain ⟨⟨rfl, -⟩, -, rfl⟩ := e0
                have gne : g2 ≠ g0 := gridNe Sa c c2 c2 m2
                have KEY : Hid (∀ d, ((wa.drewN d).setCell ⟨g2, y, none⟩ (.int .i64 z)).cell? ⟨g0, x, none⟩ = some (.slice (some ⟨g2, 0, none⟩) N cq) ∧
                    RowsL ((wa.drewN d).setCell ⟨g2, y, none⟩ (.int .i64 z)) Y Z (.slice (some ⟨g0, 0, none⟩) N cg) (gridL N N (fillF N F x (y + 1))) ∧ Below (B + 1) w1 ((wa.drewN d).setCell ⟨g2, y, none⟩ (.int .i64 z)) ∧ ((wa.drewN d).setCell ⟨g2, y, none⟩ (.int .i64 z)).heap.size = Z) := fun d => by
                  refine ⟨?_, ?_, ?_, ?_⟩
                  · rw [World.cell?_setCell_far _ _ _ _ (fun e => gne e)]; exact m1
                  · have := m6 z
                    rw [upd2_upd2, fs] at this
                    exact this
                  · exact (below_drewN Ba d).setCell (p := ⟨g2, y, none⟩) (by have := sY.out; show B + 1 ≤ g2; omega) _
                  · rw [← za]; simp [World.setCell]
                have BD : Hid (Below (B + 1) w1 wa.drew) := Ba.drew
                have m1' := Lib.hid m1
                clear Sa Ba za d6 hBl2 hR2 hz2 m1 m6 hzz fs
                go_wp2
                try rw [hwa]
                refine wp_region_held_drew (S := fun w' => w'.cell? ⟨g0, x, none⟩ = some (.slice (some ⟨g2, 0, none⟩) N cq)) (by kernel_rfl) m1'.out (fun hHeld => ?_)
                refine wpAnyH_take (i := 0) (oi := { dst := some 39, op := Op.move (Operand.tmp 4), type := 22, pos := "l11_triples.go:119", after := #[], guard := none }) (v := ?_) rfl (by kernel_rfl) (by kernel_rfl) (by kernel_rfl) (fun _ _ _ h => h) (Or.inl ⟨by rfl, ?_⟩) (by assumption) ?_
                rotate_left
                · intro w hSw; (try dsimp only at hSw); go_simp
                  try with_reducible rfl
                simp only [Act.put, List.setIfInBounds_toArray, List.set_cons_zero, List.set_cons_succ]
                refine wpAnyH_take (i := 1) (oi := { dst := some 40, op := Op.move (Operand.tmp 5), type := 2, pos := "l11_triples.go:119", after := #[], guard := none }) (v := ?_) rfl (by kernel_rfl) (by kernel_rfl) (by kernel_rfl) (fun _ _ _ h => h) (Or.inl ⟨by rfl, ?_⟩) (by assumption) ?_
                rotate_left
                · intro w hSw; (try dsimp only at hSw); go_simp
                  try with_reducible rfl
                simp only [Act.put, List.setIfInBounds_toArray, List.set_cons_zero, List.set_cons_succ]
                refine wpAnyH_take (i := 2) (oi := { dst := some 41, op := Op.indexAddr 22 (Operand.tmp 39) (Operand.tmp 40), type := 0, pos := "l11_triples.go:119", after := #[{ on := 0, ground := Ground.data }, { on := 1, ground := Ground.data }], guard := none }) (v := ?_) rfl (by kernel_rfl) (by kernel_rfl) (by kernel_rfl) (fun _ _ _ h => h) (Or.inl ⟨by rfl, ?_⟩) (by assumption) ?_
                rotate_left
                · intro w hSw; (try dsimp only at hSw); go_simp
                  try with_reducible rfl
                simp only [Act.put, List.setIfInBounds_toArray, List.set_cons_zero, List.set_cons_succ]
                refine wpAnyH_take (i := 3) (oi := { dst := some 42, op := Op.load 55 (Operand.tmp 41), type := 55, pos := "l11_triples.go:119", after := #[{ on := 2, ground := Ground.data }], guard := none }) (v := ?_) rfl (by kernel_rfl) (by kernel_rfl) (by kernel_rfl) (fun _ _ _ h => h) (Or.inl ⟨by rfl, ?_⟩) (by assumption) ?_
                rotate_left
                · intro w hSw; (try dsimp only at hSw); go_simp
                  try with_reducible rfl
                simp only [Act.put, List.setIfInBounds_toArray, List.set_cons_zero, List.set_cons_succ]
                refine wpAnyH_take (i := 4) (oi := { dst := some 43, op := Op.move (Operand.tmp 6), type := 2, pos := "l11_triples.go:119", after := #[], guard := none }) (v := ?_) rfl (by kernel_rfl) (by kernel_rfl) (by kernel_rfl) (fun _ _ _ h => h) (Or.inl ⟨by rfl, ?_⟩) (by assumption) ?_
                rotate_left
                · intro w hSw; (try dsimp only at hSw); go_simp
                  try with_reducible rfl
                simp only [Act.put, List.setIfInBounds_toArray, List.set_cons_zero, List.set_cons_succ]
                refine wpAnyH_take (i := 5) (oi := { dst := some 44, op := Op.move (Operand.tmp 5), type := 2, pos := "l11_triples.go:119", after := #[], guard := none }) (v := ?_) rfl (by kernel_rfl) (by kernel_rfl) (by kernel_rfl) (fun _ _ _ h => h) (Or.inl ⟨by rfl, ?_⟩) (by assumption) ?_
                rotate_left
                · intro w hSw; (try dsimp only at hSw); go_simp
                  try with_reducible rfl
                simp only [Act.put, List.setIfInBounds_toArray, List.set_cons_zero, List.set_cons_succ]
                refine wpAnyH_take (i := 6) (oi := { dst := some 45, op := Op.move (Operand.tmp 6), type := 2, pos := "l11_triples.go:119", after := #[], guard := none }) (v := ?_) rfl (by kernel_rfl) (by kernel_rfl) (by kernel_rfl) (fun _ _ _ h => h) (Or.inl ⟨by rfl, ?_⟩) (by assumption) ?_
                rotate_left
                · intro w hSw; (try dsimp only at hSw); go_simp
                  try with_reducible rfl
                simp only [Act.put, List.setIfInBounds_toArray, List.set_cons_zero, List.set_cons_succ]
                refine wpAnyH_ready (rs := [7]) (by kernel_rfl) (by simp) ?_
                refine AllReadyH.cons rfl (fun K' hK' => ?_) AllReadyH.nil
                go_simp
                go_wp2_with fail
                refine (HTx.out _ BD.out).mono ?_
                rintro e w8 ⟨rfl, d, rfl⟩
                obtain ⟨n4, n5, n6, n7⟩ := KEY.out (1 + d)
                have S1 := Lib.hid n5
                have S2 := Lib.hid n6
                have S3 := Lib.hid n7
                clear n5 n6 n7
                refine hK'.out _ _ m1'.out (fun hHeld => ?_)
                clear hK' K'
                refine wpAnyH_take (i := 8) (oi := { dst := some 47, op := Op.indexAddr 55 (Operand.tmp 42) (Operand.tmp 43), type := 0, pos := "l11_triples.go:119", after := #[{ on := 3, ground := Ground.data }, { on := 4, ground := Ground.data }, { on := 0, ground := Ground.phase }, { on := 1, ground := Ground.phase }, { on := 2, ground := Ground.phase }, { on := 3, ground := Ground.phase }, { on := 4, ground := Ground.phase }, { on := 5, ground := Ground.phase }, { on := 6, ground := Ground.phase }, { on := 7, ground := Ground.phase }], guard := none }) (v := ?_) rfl (by kernel_rfl) (by kernel_rfl) (by kernel_rfl) (fun _ _ _ h => h) (Or.inl ⟨by rfl, ?_⟩) (by assumption) ?_
                rotate_left
                · intro w hSw; (try dsimp only at hSw); go_simp
                  try with_reducible rfl
                simp only [Act.put, List.setIfInBounds_toArray, List.set_cons_zero, List.set_cons_succ]
                refine wpAnyH_ready (rs := [9]) (by kernel_rfl) (by simp) ?_
                refine AllReadyH.cons rfl (fun K' hK' => ?_) AllReadyH.nil
                go_simp
                refine hK'.out _ _ n4 (fun hHeld => ?_)
                clear hK' K'
                refine wpAnyH_done (by kernel_rfl) ?_ _
                clear hHeld n4
                go_wp2
                go_roundw
                case rel => exact ⟨y + 1, by omega, by go_num, S1, S2, S3⟩
                case measure => simp [intOf]; omega
            · have k2 : decide (y < N) = false := by simpa using c2
              have k2' : decide ((y : Int) < (N : Int)) = false := decide_eq_false (by omega)
              obtain rfl : y = N := by omega
              go_wp2
              go_roundw
              case rel => exact ⟨x + 1, by omega, by go_num, by unfold Hid; rw [← FR.out]; exact hR2.out, hBl2, hz2⟩
              case measure => simp [intOf]; omega
        · have k1 : decide (x < N) = false := by simpa using c
          have k1' : decide ((x : Int) < (N : Int)) = false := decide_eq_false (by omega)
          obtain rfl : x = N := by omega
          have hR' := hR.out
          rw [FA.out] at hR'
          have RR := Lib.hid hR'
          have B9 : Hid (Below B w wr) := B1.out.trans (hBl.out.mono (by omega))
          clear hR'
          go_wp2
          go_ret2
          exact ⟨_, by rw [V1.out]; rfl, by rw [V0.out]; exact RR.out.at, by rw [HB.out]; exact B9.out⟩
    · obtain ⟨V0, V1⟩ := ts_full hp (by omega)
      have V0 := Lib.hid V0
      have V1 := Lib.hid V1
      have t1 : decide ((N : Int) > 10) = true := decide_eq_true (by omega)
      have t2 : decide ((10 : Int) < (N : Int)) = true := decide_eq_true (by omega)
      have t3 : decide (10 < N) = true := decide_eq_true (by omega)
      clear hp hT k HT
      go_enter Tryd.func14, Tryd.ntmps14
      go_wp2_with fail
      try rw [hw1]
      refine HO.out.mono ?_
      rintro e w3 ⟨rfl, b3⟩
      have c3 := HC.out w3 b3
      have B3 : Hid (Below B w w3) := B1.out.trans (b3.mono (by omega))
      clear b3
      go_wp2
      go_ret2
      exact ⟨_, by rw [V1.out]; rfl, by rw [V0.out]; exact RowsAt.nil _ _ _, by rw [HB.out]; exact B3.out⟩
end
end Go.Proofs.YtanfodbpgpfjmabDoor
