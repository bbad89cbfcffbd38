/- SameField, both sides, and the law. -/
import Derived.Test.YtmlcdbjibngnkaaSame
import Derived.Test.YtmlcdbjibngnkaaEa
namespace Go.Proofs.Ytmlcdbjibngnkaa
open Go.RowKit
set_option linter.unusedVariables false

def sameF (P K P' K' : Int) (xs ys : List Int) : Bool := decide (P = P') && (decide (K = K') && decide (xs = ys))

set_option maxHeartbeats 1000000 in
theorem sSameField (P K P' K' : Int) (xs ys : List Int) (u v : Value) (w : World) (hu : IntsAt w u xs) (hv : IntsAt w v ys) :
    Calls Try.prog 38 #[.agg #[.int .i64 P, .int .i64 K, u], .agg #[.int .i64 P', .int .i64 K', v]] w fun e w' => e = .returned (.bool (sameF P K P' K' xs ys)) ∧ Below w.heap.size w w' := by
  obtain ⟨a, n, cap, rfl⟩ := fld_slice hu
  obtain ⟨b, m, cap', rfl⟩ := fld_slice hv
  have B2 : Hid (Below w.heap.size w ((w.alloc (.cells #[.int .i64 P, .int .i64 K, .slice a n cap] 25)).alloc (.cells #[.int .i64 P', .int .i64 K', .slice b m cap'] 25))) := ((Below.refl _ _).alloc (Nat.le_refl _) _).alloc (by simp only [World.size_alloc]; omega) _
  have HE := Lib.hid (fun (W : World) (h : Below w.heap.size w W) => ssame W _ _ xs ys (hu.below h (Nat.le_refl _)) (hv.below h (Nat.le_refl _)))
  clear hu hv
  by_cases h1 : P = P'
  · have t1 : (P == P') = true := by simpa using h1
    by_cases h2 : K = K'
    · have t2 : (K == K') = true := by simpa using h2
      obtain ⟨r, hr⟩ : ∃ r, decide (xs = ys) = r := ⟨_, rfl⟩
      have E : Hid (sameF P K P' K' xs ys = r) := by unfold Hid sameF; rw [decide_eq_true h1, decide_eq_true h2, hr]; rfl
      rw [hr] at HE
      clear h1 h2 hr
      go_enter Try.func38, Try.ntmps38
      go_wp2_with (go_at_call 73; refine (HE.out _ B2.out).mono ?_; rintro e w' ⟨rfl, k, rfl⟩)
      go_ret
      exact ⟨ret_b _ _ E.out.symm, belowN B2.out k⟩
    · have t2 : (K == K') = false := by simpa using h2
      have E : Hid (sameF P K P' K' xs ys = false) := by unfold Hid sameF; rw [decide_eq_true h1, decide_eq_false h2]; rfl
      clear h1 h2
      go_enter Try.func38, Try.ntmps38
      go_wp2
      go_ret
      exact ⟨ret_b _ _ E.out.symm, B2.out⟩
  · have t1 : (P == P') = false := by simpa using h1
    have E : Hid (sameF P K P' K' xs ys = false) := by unfold Hid sameF; rw [decide_eq_false h1]; rfl
    clear h1
    go_enter Try.func38, Try.ntmps38
    go_wp2
    go_ret
    exact ⟨ret_b _ _ E.out.symm, B2.out⟩

set_option maxHeartbeats 1000000 in
theorem iSameField (P K P' K' : Int) (xs ys : List Int) (u v : Value) (w : World) (hu : IntsAt w u xs) (hv : IntsAt w v ys) :
    Calls Try.prog 39 #[.agg #[.int .i64 P, .int .i64 K, u], .agg #[.int .i64 P', .int .i64 K', v]] w fun e w' => e = .returned (.bool (sameF P K P' K' xs ys)) ∧ Below w.heap.size w w' := by
  obtain ⟨a, n, cap, rfl⟩ := fld_slice hu
  obtain ⟨b, m, cap', rfl⟩ := fld_slice hv
  have B2 : Hid (Below w.heap.size w ((w.alloc (.cells #[.int .i64 P, .int .i64 K, .slice a n cap] 25)).alloc (.cells #[.int .i64 P', .int .i64 K', .slice b m cap'] 25))) := ((Below.refl _ _).alloc (Nat.le_refl _) _).alloc (by simp only [World.size_alloc]; omega) _
  have HE := Lib.hid (fun (W : World) (h : Below w.heap.size w W) => iequal W _ _ xs ys (hu.below h (Nat.le_refl _)) (hv.below h (Nat.le_refl _)))
  clear hu hv
  by_cases h1 : P = P'
  · have t1 : (P == P') = true := by simpa using h1
    by_cases h2 : K = K'
    · have t2 : (K == K') = true := by simpa using h2
      obtain ⟨r, hr⟩ : ∃ r, decide (xs = ys) = r := ⟨_, rfl⟩
      have E : Hid (sameF P K P' K' xs ys = r) := by unfold Hid sameF; rw [decide_eq_true h1, decide_eq_true h2, hr]; rfl
      rw [hr] at HE
      clear h1 h2 hr
      go_enter Try.func39, Try.ntmps39
      go_wp2_with (go_at_call 74; refine (HE.out _ B2.out).mono ?_; rintro e w' ⟨rfl, k, rfl⟩)
      go_ret
      exact ⟨ret_b _ _ E.out.symm, belowN B2.out k⟩
    · have t2 : (K == K') = false := by simpa using h2
      have E : Hid (sameF P K P' K' xs ys = false) := by unfold Hid sameF; rw [decide_eq_true h1, decide_eq_false h2]; rfl
      clear h1 h2
      go_enter Try.func39, Try.ntmps39
      go_wp2
      go_ret
      exact ⟨ret_b _ _ E.out.symm, B2.out⟩
  · have t1 : (P == P') = false := by simpa using h1
    have E : Hid (sameF P K P' K' xs ys = false) := by unfold Hid sameF; rw [decide_eq_false h1]; rfl
    clear h1
    go_enter Try.func39, Try.ntmps39
    go_wp2
    go_ret
    exact ⟨ret_b _ _ E.out.symm, B2.out⟩

theorem szField_gen (P K : Int) (a : Option Addr) (n cap left : Nat) (w : World) (hn : n ≤ 9223372036854775807) (hl : left ≤ 1048576) :
    Calls Try.prog 33 #[.agg #[.int .i64 P, .int .i64 K, .slice a n cap], .int .i64 left] w fun e w' => e = .returned (.int .i64 (if n ≤ left then (left : Int) - (n : Int) else -1)) ∧ Below w.heap.size w w' := by
  have HS : Hid (∀ W : World, Calls Try.prog 71 #[.slice a n cap, .int .i64 left] W fun e w' => e = .returned (.int .i64 (if n ≤ left then (left : Int) - (n : Int) else -1)) ∧ W = w') := by
    intro W
    by_cases h : n ≤ left
    · rw [if_pos h]
      have g1 : ¬ (left : Int) - (n : Int) < 0 := by omega
      go_enter Try.func71, Try.ntmps71
      go_wp2
      go_ret
      exact ⟨rfl, rfl⟩
    · rw [if_neg h]
      have g1 : (left : Int) - (n : Int) < 0 := by omega
      go_enter Try.func71, Try.ntmps71
      go_wp2
      go_ret
      exact ⟨rfl, rfl⟩
  obtain ⟨m, hm⟩ : ∃ m : Int, (if n ≤ left then (left : Int) - (n : Int) else -1) = m := ⟨_, rfl⟩
  have m0 : m = -1 ∨ 0 ≤ m := by rw [← hm]; split <;> omega
  rw [hm] at HS ⊢
  clear hm
  have B0 : Hid (Below w.heap.size w (w.alloc (.cells #[.int .i64 P, .int .i64 K, .slice a n cap] 37))) := (Below.refl _ _).alloc (Nat.le_refl _) _
  rcases m0 with rfl | h0
  · go_enter Try.func33, Try.ntmps33
    go_wp2_with (go_at_call 71; refine (HS.out _).mono ?_; rintro e w' ⟨rfl, rfl⟩)
    go_ret
    exact ⟨rfl, B0.out⟩
  · have g1 : ¬ m < 0 := by omega
    go_enter Try.func33, Try.ntmps33
    go_wp2_with (go_at_call 71; refine (HS.out _).mono ?_; rintro e w' ⟨rfl, rfl⟩)
    go_ret
    exact ⟨rfl, B0.out⟩

/-- The worlds of a law with two fields. -/
def Fb (w : World) (g : Nat) (P K : Int) (v : Value) (T : TypeId) : Prop := w.heap[g]? = some (.cells #[.int .i64 P, .int .i64 K, v] T (0, 0))
theorem Fb.cells {w : World} {g : Nat} {P K : Int} {v : Value} {T : TypeId} (h : Fb w g P K v T) : w.cell? ⟨g, 0, none⟩ = some (.int .i64 P) ∧ w.cell? ⟨g, 1, none⟩ = some (.int .i64 K) ∧ w.cell? ⟨g, 2, none⟩ = some v :=
  ⟨by rw [cell_of_row w g 0 _ _ _ h]; rfl, by rw [cell_of_row w g 1 _ _ _ h]; rfl, by rw [cell_of_row w g 2 _ _ _ h]; rfl⟩
theorem Fb.lt {w : World} {g : Nat} {P K : Int} {v : Value} {T : TypeId} (h : Fb w g P K v T) : g < w.heap.size := by
  unfold Fb at h; exact (Array.getElem?_eq_some_iff.1 h).1
theorem Fb.next {w w' : World} {g : Nat} {P K : Int} {v : Value} {T : TypeId} (h : Fb w g P K v T) (hb : Below w.heap.size w w') : Fb w' g P K v T := (hb.block g h.lt).trans h
/-- A field in block g with its list. -/
def Fx (w : World) (g : Nat) (P K : Int) (v : Value) (T : TypeId) (xs : List Int) : Prop := Fb w g P K v T ∧ IntsAt w v xs
theorem Fx.next {w w' : World} {g : Nat} {P K : Int} {v : Value} {T : TypeId} {xs : List Int} (h : Hid (Fx w g P K v T xs)) (hb : Below w.heap.size w w') : Hid (Fx w' g P K v T xs) := ⟨h.out.1.next hb, h.out.2.below hb (Nat.le_refl _)⟩
theorem Fx.new {w : World} (P K : Int) {v : Value} (T : TypeId) {xs : List Int} (h : IntsAt w v xs) : Hid (Fx (w.alloc (.cells #[.int .i64 P, .int .i64 K, v] T)) w.heap.size P K v T xs) := ⟨heap_alloc_new w _, h.below ((Below.refl _ _).alloc (Nat.le_refl _) _) (Nat.le_refl _)⟩
/-- All four. -/
def F4 (w : World) (g0 g1 g2 g3 : Nat) (P K P' K' : Int) (v v' u u' : Value) (xs ys : List Int) (w' : World) : Prop :=
  (Fx w' g0 P K v 37 xs ∧ Fx w' g1 P' K' v' 37 ys) ∧ (Fx w' g2 P K u 25 xs ∧ Fx w' g3 P' K' u' 25 ys) ∧ Below w.heap.size w w'
theorem F4.next {w : World} {g0 g1 g2 g3 : Nat} {P K P' K' : Int} {v v' u u' : Value} {xs ys : List Int} {w1 w2 : World} (h : Hid (F4 w g0 g1 g2 g3 P K P' K' v v' u u' xs ys w1)) (hb : Below w1.heap.size w1 w2) : Hid (F4 w g0 g1 g2 g3 P K P' K' v v' u u' xs ys w2) :=
  ⟨⟨(Fx.next (Lib.hid h.out.1.1) hb).out, (Fx.next (Lib.hid h.out.1.2) hb).out⟩, ⟨(Fx.next (Lib.hid h.out.2.1.1) hb).out, (Fx.next (Lib.hid h.out.2.1.2) hb).out⟩, h.out.2.2.trans (hb.mono h.out.2.2.size)⟩
/-- Two of them. -/
def F2 (w : World) (g0 g1 : Nat) (P K P' K' : Int) (v v' : Value) (xs ys : List Int) (w' : World) : Prop :=
  (Fx w' g0 P K v 37 xs ∧ Fx w' g1 P' K' v' 37 ys) ∧ Below w.heap.size w w'
theorem F2.next {w : World} {g0 g1 : Nat} {P K P' K' : Int} {v v' : Value} {xs ys : List Int} {w1 w2 : World} (h : Hid (F2 w g0 g1 P K P' K' v v' xs ys w1)) (hb : Below w1.heap.size w1 w2) : Hid (F2 w g0 g1 P K P' K' v v' xs ys w2) :=
  ⟨⟨(Fx.next (Lib.hid h.out.1.1) hb).out, (Fx.next (Lib.hid h.out.1.2) hb).out⟩, h.out.2.trans (hb.mono h.out.2.size)⟩
theorem heldF2 {w : World} {g0 g1 : Nat} {P K P' K' : Int} {v v' : Value} {xs ys : List Int} {w' : World} (h : Hid (F2 w g0 g1 P K P' K' v v' xs ys w')) :
    w'.cell? ⟨g0, 0, none⟩ = some (.int .i64 P) ∧ w'.cell? ⟨g0, 1, none⟩ = some (.int .i64 K) ∧ w'.cell? ⟨g0, 2, none⟩ = some v ∧ w'.cell? ⟨g1, 0, none⟩ = some (.int .i64 P') ∧ w'.cell? ⟨g1, 1, none⟩ = some (.int .i64 K') ∧ w'.cell? ⟨g1, 2, none⟩ = some v' ∧ Hid (F2 w g0 g1 P K P' K' v v' xs ys w') := by
  obtain ⟨a0, a1, a2⟩ := h.out.1.1.1.cells
  obtain ⟨b0, b1, b2⟩ := h.out.1.2.1.cells
  exact ⟨a0, a1, a2, b0, b1, b2, h⟩
theorem heldF4 {w : World} {g0 g1 g2 g3 : Nat} {P K P' K' : Int} {v v' u u' : Value} {xs ys : List Int} {w' : World} (h : Hid (F4 w g0 g1 g2 g3 P K P' K' v v' u u' xs ys w')) :
    (w'.cell? ⟨g0, 0, none⟩ = some (.int .i64 P) ∧ w'.cell? ⟨g0, 1, none⟩ = some (.int .i64 K) ∧ w'.cell? ⟨g0, 2, none⟩ = some v) ∧ (w'.cell? ⟨g1, 0, none⟩ = some (.int .i64 P') ∧ w'.cell? ⟨g1, 1, none⟩ = some (.int .i64 K') ∧ w'.cell? ⟨g1, 2, none⟩ = some v') ∧ (w'.cell? ⟨g2, 0, none⟩ = some (.int .i64 P) ∧ w'.cell? ⟨g2, 1, none⟩ = some (.int .i64 K) ∧ w'.cell? ⟨g2, 2, none⟩ = some u) ∧ (w'.cell? ⟨g3, 0, none⟩ = some (.int .i64 P') ∧ w'.cell? ⟨g3, 1, none⟩ = some (.int .i64 K') ∧ w'.cell? ⟨g3, 2, none⟩ = some u') ∧ Hid (F4 w g0 g1 g2 g3 P K P' K' v v' u u' xs ys w') :=
  ⟨h.out.1.1.1.cells, h.out.1.2.1.cells, h.out.2.1.1.1.cells, h.out.2.1.2.1.cells, h⟩

set_option maxHeartbeats 2000000 in
theorem law_FnExactSameField (P K : Int) (a : Option Addr) (len cap : Nat) (zs : List Int) (P' K' : Int) (a' : Option Addr) (len' cap' : Nat) (zs' : List Int) (w : World) (hrow : IsRow .i64 w a len cap zs) (hrow' : IsRow .i64 w a' len' cap' zs') :
    Calls Try.prog 6 #[.agg #[.int .i64 P, .int .i64 K, .slice a len cap], .agg #[.int .i64 P', .int .i64 K', .slice a' len' cap']] w fun e w' => e = .returned (.bool true) ∧ Below w.heap.size w w' := by
  obtain ⟨hv, hl⟩ := hrow.at
  obtain ⟨xs, hxs⟩ : ∃ xs, zs.take len = xs := ⟨_, rfl⟩
  rw [hxs] at hv hl
  obtain ⟨hv', hl'⟩ := hrow'.at
  obtain ⟨ys, hys⟩ : ∃ ys, zs'.take len' = ys := ⟨_, rfl⟩
  rw [hys] at hv' hl'
  clear hxs hrow hys hrow'
  have ba : Below w.heap.size w (w.alloc (.cells #[.int .i64 P, .int .i64 K, .slice a len cap] 37)) := (Below.refl _ _).alloc (Nat.le_refl _) _
  have bb : Below (w.alloc (.cells #[.int .i64 P, .int .i64 K, .slice a len cap] 37)).heap.size (w.alloc (.cells #[.int .i64 P, .int .i64 K, .slice a len cap] 37)) ((w.alloc (.cells #[.int .i64 P, .int .i64 K, .slice a len cap] 37)).alloc (.cells #[.int .i64 P', .int .i64 K', .slice a' len' cap'] 37)) := (Below.refl _ _).alloc (Nat.le_refl _) _
  have S1 : Hid (F2 w w.heap.size (w.heap.size + 1) P K P' K' (.slice a len cap) (.slice a' len' cap') xs ys ((w.alloc (.cells #[.int .i64 P, .int .i64 K, .slice a len cap] 37)).alloc (.cells #[.int .i64 P', .int .i64 K', .slice a' len' cap'] 37))) := by
    refine ⟨⟨(Fx.next (Fx.new P K _ hv) bb).out, ?_⟩, ba.trans (bb.mono ba.size)⟩
    have := (Fx.new P' K' 37 (hv'.below ba (Nat.le_refl _))).out
    rwa [World.size_alloc] at this
  have hmax : len ≤ 9223372036854775807 := by have := hv.1; omega
  have hmax' : len' ≤ 9223372036854775807 := by have := hv'.1; omega
  have HZ := Lib.hid (fun W : World => szField_any P K a len cap W hmax)
  have HZ' := Lib.hid (fun (left : Nat) (W : World) (h : left ≤ 1048576) => szField_gen P' K' a' len' cap' left W hmax' h)
  clear hv hv' ba bb hmax hmax'
  by_cases hlen : len ≤ 1048576
  · rw [if_pos hlen] at HZ
    obtain ⟨left, hleft⟩ : ∃ left : Nat, left = 1048576 - len := ⟨_, rfl⟩
    have e1 : (1048576 : Int) - (len : Int) = (left : Int) := by omega
    rw [e1] at HZ
    have HZ2 := Lib.hid (HZ'.out left · (by omega))
    have hle : left ≤ 1048576 := by omega
    clear HZ' e1
    by_cases hlen' : len' ≤ left
    · rw [if_pos hlen'] at HZ2
      have x1 : ¬ (left : Int) - (len' : Int) < 0 := by omega
      have y1 : len' ≤ 1048576 := by omega
      clear hleft
      have HTo := Lib.hid (fun (W : World) (h : F2 w w.heap.size (w.heap.size + 1) P K P' K' (.slice a len cap) (.slice a' len' cap') xs ys W) => toField_any P K xs (.slice a len cap) W h.1.1.2 (by omega))
      have HTo' := Lib.hid (fun (W : World) (h : F2 w w.heap.size (w.heap.size + 1) P K P' K' (.slice a len cap) (.slice a' len' cap') xs ys W) => toField_any P' K' ys (.slice a' len' cap') W h.1.2.2 (by omega))
      have HS := Lib.hid (fun (u v : Value) (W : World) (h : IntsAt W u xs) (h' : IntsAt W v ys) => sSameField P K P' K' xs ys u v W h h')
      have HI := Lib.hid (fun (u v : Value) (W : World) (h : IntsAt W u xs) (h' : IntsAt W v ys) => iSameField P K P' K' xs ys u v W h h')
      obtain ⟨r, hr⟩ : ∃ r, sameF P K P' K' xs ys = r := ⟨_, rfl⟩
      rw [hr] at HS HI
      clear hr
      have rT : (r != r) = false := by simp
      go_enter Try.func6, Try.ntmps6
      go_upto_region 5 with (go_at_call 33; refine (HZ.out _).mono ?_; rintro e w2 ⟨rfl, b2⟩; have S2 := F2.next S1 b2; obtain ⟨c0, c1, c2⟩ := S2.out.1.1.1.cells; obtain ⟨d0, d1, d2⟩ := S2.out.1.2.1.cells; clear b2)
      go_upto_region 8 with (go_at_call 33; refine (HZ2.out _).mono ?_; rintro e w3 ⟨rfl, b3⟩; have S3 := F2.next S2 b3; clear b3)
      have S3d := F2.next S3 (Below.refl _ _).drew
      clear c0 c1 c2 d0 d1 d2
      go_region_held3 (fun w' => w'.cell? ⟨w.heap.size, 0, none⟩ = some (.int .i64 P) ∧ w'.cell? ⟨w.heap.size, 1, none⟩ = some (.int .i64 K) ∧ w'.cell? ⟨w.heap.size, 2, none⟩ = some (.slice a len cap) ∧ w'.cell? ⟨w.heap.size + 1, 0, none⟩ = some (.int .i64 P') ∧ w'.cell? ⟨w.heap.size + 1, 1, none⟩ = some (.int .i64 K') ∧ w'.cell? ⟨w.heap.size + 1, 2, none⟩ = some (.slice a' len' cap') ∧ Hid (F2 w w.heap.size (w.heap.size + 1) P K P' K' (.slice a len cap) (.slice a' len' cap') xs ys w')) (first | exact heldF2 (by assumption))
        (first | (go_at_call 35; (first | ((with_reducible refine (HTo.out _ (Hid.out (by assumption))).mono ?_); rintro e w4 ⟨v4, rfl, i4, b4⟩; have S4 := F2.next (by assumption) b4; have Iu := Lib.hid i4.at; (try have Iv2 := Lib.hid (IntsAt.below Iv.out b4 (Nat.le_refl _)))) | ((with_reducible refine (HTo'.out _ (Hid.out (by assumption))).mono ?_); rintro e w5 ⟨v5, rfl, i5, b5⟩; have S5 := F2.next (by assumption) b5; have Iv := Lib.hid i5.at; (try have Iu2 := Lib.hid (IntsAt.below Iu.out b5 (Nat.le_refl _)))))) | (go_at_call 38; (first | refine (HS.out _ _ _ Iu2.out Iv.out).mono ?_ | refine (HS.out _ _ _ Iu.out Iv2.out).mono ?_); rintro e w6 ⟨rfl, b6⟩; have S6 := F2.next (by assumption) b6))
      all_goals
        clear S3 S3d HZ HZ2 S1 S2
        obtain ⟨c0, c1, c2⟩ := S6.out.1.1.1.cells
        go_upto_region 10 with (go_at_call 35; refine (HTo.out _ S6.out).mono ?_; rintro e w7 ⟨v7, rfl, i7, b7⟩; have S7 := F2.next S6 b7; obtain ⟨a5, n5, cap5, rfl⟩ := i7.isSlice; have I7 := Lib.hid i7.at; clear i7 b7)
        have X7 := Fx.new P K 25 I7.out
        have S7a := F2.next S7 ((Below.refl w7.heap.size w7).alloc (Nat.le_refl _) (.cells #[.int .i64 P, .int .i64 K, .slice a5 n5 cap5] 25))
        obtain ⟨g2, hg2⟩ : ∃ g2, w7.heap.size = g2 := ⟨_, rfl⟩
        obtain ⟨w8, hw8⟩ : ∃ w8, w7.alloc (.cells #[.int .i64 P, .int .i64 K, .slice a5 n5 cap5] 25) = w8 := ⟨_, rfl⟩
        rw [hw8] at X7 S7a ⊢
        rw [hg2] at X7 ⊢
        clear hw8 hg2 S7 I7 S6 c0 c1 c2
        obtain ⟨d0, d1, d2⟩ := S7a.out.1.2.1.cells
        go_upto_region 11 with (go_at_call 35; refine (HTo'.out _ S7a.out).mono ?_; rintro e w9 ⟨v9, rfl, i9, b9⟩; have S9 := F2.next S7a b9; have X9 := Fx.next X7 b9; obtain ⟨a6, n6, cap6, rfl⟩ := i9.isSlice; have I9 := Lib.hid i9.at; clear i9 b9)
        have Y9 := Fx.new P' K' 25 I9.out
        have S9a := F2.next S9 ((Below.refl w9.heap.size w9).alloc (Nat.le_refl _) (.cells #[.int .i64 P', .int .i64 K', .slice a6 n6 cap6] 25))
        have X9a := Fx.next X9 ((Below.refl w9.heap.size w9).alloc (Nat.le_refl _) (.cells #[.int .i64 P', .int .i64 K', .slice a6 n6 cap6] 25))
        obtain ⟨g3, hg3⟩ : ∃ g3, w9.heap.size = g3 := ⟨_, rfl⟩
        obtain ⟨wa, hwa⟩ : ∃ wa, w9.alloc (.cells #[.int .i64 P', .int .i64 K', .slice a6 n6 cap6] 25) = wa := ⟨_, rfl⟩
        rw [hwa] at X9a Y9 S9a ⊢
        rw [hg3] at Y9 ⊢
        have A0 : Hid (F4 w w.heap.size (w.heap.size + 1) g2 g3 P K P' K' (.slice a len cap) (.slice a' len' cap') (.slice a5 n5 cap5) (.slice a6 n6 cap6) xs ys wa) := ⟨S9a.out.1, ⟨X9a.out, Y9.out⟩, S9a.out.2⟩
        clear hwa hg3 S9 X9 I9 S7a X7 d0 d1 d2 Y9 S9a X9a
        obtain ⟨e0, e1, e2⟩ := A0.out.2.1.1.1.cells
        obtain ⟨f0, f1, f2⟩ := A0.out.2.1.2.1.cells
        go_upto_region 14 with (go_at_call 39; refine (HI.out _ _ _ A0.out.2.1.1.2 A0.out.2.1.2.2).mono ?_; rintro e wb ⟨rfl, bb⟩; have A1 := F4.next A0 bb; clear bb)
        clear e0 e1 e2 f0 f1 f2 A0
        have A1d := F4.next A1 (Below.refl _ _).drew
        have HT4 := Lib.hid (fun (W : World) (h : F4 w w.heap.size (w.heap.size + 1) g2 g3 P K P' K' (.slice a len cap) (.slice a' len' cap') (.slice a5 n5 cap5) (.slice a6 n6 cap6) xs ys W) => toField_any P K xs (.slice a len cap) W h.1.1.2 (by omega))
        have HT4' := Lib.hid (fun (W : World) (h : F4 w w.heap.size (w.heap.size + 1) g2 g3 P K P' K' (.slice a len cap) (.slice a' len' cap') (.slice a5 n5 cap5) (.slice a6 n6 cap6) xs ys W) => toField_any P' K' ys (.slice a' len' cap') W h.1.2.2 (by omega))
        have HE := Lib.hid (fun (u : Value) (W : World) (h1 : IntsAt W (.slice a5 n5 cap5) xs) (h2 : IntsAt W u xs) => eqField_same P K xs (.slice a5 n5 cap5) u W h1 h2)
        have HE' := Lib.hid (fun (u : Value) (W : World) (h1 : IntsAt W (.slice a6 n6 cap6) ys) (h2 : IntsAt W u ys) => eqField_same P' K' ys (.slice a6 n6 cap6) u W h1 h2)
        go_region_held3 (fun w' => (w'.cell? ⟨w.heap.size, 0, none⟩ = some (.int .i64 P) ∧ w'.cell? ⟨w.heap.size, 1, none⟩ = some (.int .i64 K) ∧ w'.cell? ⟨w.heap.size, 2, none⟩ = some (.slice a len cap)) ∧ (w'.cell? ⟨w.heap.size + 1, 0, none⟩ = some (.int .i64 P') ∧ w'.cell? ⟨w.heap.size + 1, 1, none⟩ = some (.int .i64 K') ∧ w'.cell? ⟨w.heap.size + 1, 2, none⟩ = some (.slice a' len' cap')) ∧ (w'.cell? ⟨g2, 0, none⟩ = some (.int .i64 P) ∧ w'.cell? ⟨g2, 1, none⟩ = some (.int .i64 K) ∧ w'.cell? ⟨g2, 2, none⟩ = some (.slice a5 n5 cap5)) ∧ (w'.cell? ⟨g3, 0, none⟩ = some (.int .i64 P') ∧ w'.cell? ⟨g3, 1, none⟩ = some (.int .i64 K') ∧ w'.cell? ⟨g3, 2, none⟩ = some (.slice a6 n6 cap6)) ∧ Hid (F4 w w.heap.size (w.heap.size + 1) g2 g3 P K P' K' (.slice a len cap) (.slice a' len' cap') (.slice a5 n5 cap5) (.slice a6 n6 cap6) xs ys w')) (first | exact heldF4 (by assumption))
          (first | (go_at_call 35; refine (HT4.out _ (Hid.out (by assumption))).mono ?_; rintro e wc ⟨vc, rfl, ic, bc⟩; have A2 := F4.next (by assumption) bc; have Ic := Lib.hid ic.at) | (go_at_call 37; refine (HE.out _ _ A2.out.2.1.1.2 Ic.out).mono ?_; rintro e wd ⟨rfl, bd⟩; have A3 := F4.next A2 bd))
        clear A1 A1d A2 Ic
        go_upto_region 16 with fail
        have A3d := F4.next A3 (Below.refl _ _).drew
        go_region_held3 (fun w' => (w'.cell? ⟨w.heap.size, 0, none⟩ = some (.int .i64 P) ∧ w'.cell? ⟨w.heap.size, 1, none⟩ = some (.int .i64 K) ∧ w'.cell? ⟨w.heap.size, 2, none⟩ = some (.slice a len cap)) ∧ (w'.cell? ⟨w.heap.size + 1, 0, none⟩ = some (.int .i64 P') ∧ w'.cell? ⟨w.heap.size + 1, 1, none⟩ = some (.int .i64 K') ∧ w'.cell? ⟨w.heap.size + 1, 2, none⟩ = some (.slice a' len' cap')) ∧ (w'.cell? ⟨g2, 0, none⟩ = some (.int .i64 P) ∧ w'.cell? ⟨g2, 1, none⟩ = some (.int .i64 K) ∧ w'.cell? ⟨g2, 2, none⟩ = some (.slice a5 n5 cap5)) ∧ (w'.cell? ⟨g3, 0, none⟩ = some (.int .i64 P') ∧ w'.cell? ⟨g3, 1, none⟩ = some (.int .i64 K') ∧ w'.cell? ⟨g3, 2, none⟩ = some (.slice a6 n6 cap6)) ∧ Hid (F4 w w.heap.size (w.heap.size + 1) g2 g3 P K P' K' (.slice a len cap) (.slice a' len' cap') (.slice a5 n5 cap5) (.slice a6 n6 cap6) xs ys w')) (first | exact heldF4 (by assumption))
          (first | (go_at_call 35; refine (HT4'.out _ (Hid.out (by assumption))).mono ?_; rintro e we ⟨ve, rfl, ie, be⟩; have A4 := F4.next (by assumption) be; have Ie := Lib.hid ie.at) | (go_at_call 37; refine (HE'.out _ _ A4.out.2.1.2.2 Ie.out).mono ?_; rintro e wf ⟨rfl, bf⟩; have A5 := F4.next A4 bf))
        go_wp2
        go_ret
        exact ⟨rfl, A5.out.2.2⟩
    · rw [if_neg hlen'] at HZ2
      clear hleft
      go_enter Try.func6, Try.ntmps6
      go_upto_region 5 with (go_at_call 33; refine (HZ.out _).mono ?_; rintro e w2 ⟨rfl, b2⟩; have S2 := F2.next S1 b2; obtain ⟨c0, c1, c2⟩ := S2.out.1.1.1.cells; obtain ⟨d0, d1, d2⟩ := S2.out.1.2.1.cells; clear b2)
      go_wp2_with (go_at_call 33; refine (HZ2.out _).mono ?_; rintro e w3 ⟨rfl, b3⟩; have S3 := F2.next S2 b3; clear b3)
      go_ret
      exact ⟨rfl, S3.out.2⟩
  · rw [if_neg hlen] at HZ
    clear HZ'
    go_enter Try.func6, Try.ntmps6
    go_wp2_with (go_at_call 33; refine (HZ.out _).mono ?_; rintro e w2 ⟨rfl, b2⟩; have S2 := F2.next S1 b2; clear b2)
    go_ret
    exact ⟨rfl, S2.out.2⟩
end Go.Proofs.Ytmlcdbjibngnkaa
