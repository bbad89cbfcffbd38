/- SameDesign: the law. -/
import Derived.Test.YtpgjomndfkkchaaGsmD
import Derived.Deep.RegionHeld3
import Derived.Deep.Cut
namespace Go.Proofs.Ytpgjomndfkkchaa
open Go.RowKit
set_option linter.unusedVariables false

/-- A structure in block g. -/
def Gb (w : World) (g : Nat) (n : Int) (v : Value) (T : TypeId) : Prop := w.heap[g]? = some (.cells #[.int .i64 n, v] T (0, 0))
theorem Gb.cells {w : World} {g : Nat} {n : Int} {v : Value} {T : TypeId} (h : Gb w g n v T) : w.cell? ⟨g, 0, none⟩ = some (.int .i64 n) ∧ w.cell? ⟨g, 1, none⟩ = some v :=
  ⟨by rw [cell_of_row w g 0 _ _ _ h]; rfl, by rw [cell_of_row w g 1 _ _ _ h]; rfl⟩
theorem Gb.lt {w : World} {g : Nat} {n : Int} {v : Value} {T : TypeId} (h : Gb w g n v T) : g < w.heap.size := by
  unfold Gb at h; exact (Array.getElem?_eq_some_iff.1 h).1
theorem Gb.next {w w' : World} {g : Nat} {n : Int} {v : Value} {T : TypeId} (h : Gb w g n v T) (hb : Below w.heap.size w w') : Gb w' g n v T := (hb.block g h.lt).trans h
/-- .. with its rows. -/
def Gx (w : World) (g : Nat) (n : Int) (v : Value) (T : TypeId) (xs : List (List Int)) : Prop := Gb w g n v T ∧ RowsAt w v xs
theorem Gx.next {w w' : World} {g : Nat} {n : Int} {v : Value} {T : TypeId} {xs : List (List Int)} (h : Hid (Gx w g n v T xs)) (hb : Below w.heap.size w w') : Hid (Gx w' g n v T xs) := ⟨h.out.1.next hb, h.out.2.below hb (Nat.le_refl _)⟩
theorem Gx.new {w : World} (n : Int) {v : Value} (T : TypeId) {xs : List (List Int)} (h : RowsAt w v xs) : Hid (Gx (w.alloc (.cells #[.int .i64 n, v] T)) w.heap.size n v T xs) := ⟨heap_alloc_new w _, h.below ((Below.refl _ _).alloc (Nat.le_refl _) _) (Nat.le_refl _)⟩
/-- All four. -/
def G4 (w : World) (g0 g1 g2 g3 : Nat) (n m : Int) (v v' u u' : Value) (xs ys : List (List Int)) (w' : World) : Prop :=
  (Gx w' g0 n v 24 xs ∧ Gx w' g1 m v' 24 ys) ∧ (Gx w' g2 n u 27 xs ∧ Gx w' g3 m u' 27 ys) ∧ Below w.heap.size w w'
theorem G4.next {w : World} {g0 g1 g2 g3 : Nat} {n m : Int} {v v' u u' : Value} {xs ys : List (List Int)} {w1 w2 : World} (h : Hid (G4 w g0 g1 g2 g3 n m v v' u u' xs ys w1)) (hb : Below w1.heap.size w1 w2) : Hid (G4 w g0 g1 g2 g3 n m v v' u u' xs ys w2) :=
  ⟨⟨(Gx.next (Lib.hid h.out.1.1) hb).out, (Gx.next (Lib.hid h.out.1.2) hb).out⟩, ⟨(Gx.next (Lib.hid h.out.2.1.1) hb).out, (Gx.next (Lib.hid h.out.2.1.2) hb).out⟩, h.out.2.2.trans (hb.mono h.out.2.2.size)⟩
/-- Two of them. -/
def G2 (w : World) (g0 g1 : Nat) (n m : Int) (v v' : Value) (xs ys : List (List Int)) (w' : World) : Prop :=
  (Gx w' g0 n v 24 xs ∧ Gx w' g1 m v' 24 ys) ∧ Below w.heap.size w w'
theorem G2.next {w : World} {g0 g1 : Nat} {n m : Int} {v v' : Value} {xs ys : List (List Int)} {w1 w2 : World} (h : Hid (G2 w g0 g1 n m v v' xs ys w1)) (hb : Below w1.heap.size w1 w2) : Hid (G2 w g0 g1 n m v v' xs ys w2) :=
  ⟨⟨(Gx.next (Lib.hid h.out.1.1) hb).out, (Gx.next (Lib.hid h.out.1.2) hb).out⟩, h.out.2.trans (hb.mono h.out.2.size)⟩
theorem heldG2 {w : World} {g0 g1 : Nat} {n m : Int} {v v' : Value} {xs ys : List (List Int)} {w' : World} (h : Hid (G2 w g0 g1 n m v v' xs ys w')) :
    w'.cell? ⟨g0, 0, none⟩ = some (.int .i64 n) ∧ w'.cell? ⟨g0, 1, none⟩ = some v ∧ w'.cell? ⟨g1, 0, none⟩ = some (.int .i64 m) ∧ w'.cell? ⟨g1, 1, none⟩ = some v' ∧ Hid (G2 w g0 g1 n m v v' xs ys w') := by
  obtain ⟨a0, a1⟩ := h.out.1.1.1.cells
  obtain ⟨b0, b1⟩ := h.out.1.2.1.cells
  exact ⟨a0, a1, b0, b1, h⟩
theorem heldG4 {w : World} {g0 g1 g2 g3 : Nat} {n m : Int} {v v' u u' : Value} {xs ys : List (List Int)} {w' : World} (h : Hid (G4 w g0 g1 g2 g3 n m v v' u u' xs ys w')) :
    (w'.cell? ⟨g0, 0, none⟩ = some (.int .i64 n) ∧ w'.cell? ⟨g0, 1, none⟩ = some v) ∧ (w'.cell? ⟨g1, 0, none⟩ = some (.int .i64 m) ∧ w'.cell? ⟨g1, 1, none⟩ = some v') ∧ (w'.cell? ⟨g2, 0, none⟩ = some (.int .i64 n) ∧ w'.cell? ⟨g2, 1, none⟩ = some u) ∧ (w'.cell? ⟨g3, 0, none⟩ = some (.int .i64 m) ∧ w'.cell? ⟨g3, 1, none⟩ = some u') ∧ Hid (G4 w g0 g1 g2 g3 n m v v' u u' xs ys w') :=
  ⟨h.out.1.1.1.cells, h.out.1.2.1.cells, h.out.2.1.1.1.cells, h.out.2.1.2.1.cells, h⟩

set_option maxRecDepth 100000 in
set_option maxHeartbeats 8000000 in
theorem law_FnExactSameDesign (n : Int) (v0 : Value) (xs : List (List Int)) (m : Int) (v1 : Value) (ys : List (List Int)) (w : World) (_ : (Lit.int .i64 n).wf = true) (hv : RowsAt w v0 xs) (hx : ∀ r ∈ xs, ∀ x ∈ r, I64 x) (_ : (Lit.int .i64 m).wf = true) (hv' : RowsAt w v1 ys) (hy : ∀ r ∈ ys, ∀ x ∈ r, I64 x) :
    Calls Try.prog 4 #[.agg #[.int .i64 n, v0], .agg #[.int .i64 m, v1]] w fun e w' => e = .returned (.bool true) ∧ Below w.heap.size w w' := by
  obtain ⟨a, cap, rfl, -⟩ := hv.shape
  obtain ⟨a', cap', rfl, -⟩ := hv'.shape
  obtain ⟨len, hlen⟩ : ∃ l, xs.length = l := ⟨_, rfl⟩
  obtain ⟨len', hlen'⟩ : ∃ l, ys.length = l := ⟨_, rfl⟩
  rw [hlen] at hv ⊢
  rw [hlen'] at hv' ⊢
  have ba : Below w.heap.size w (w.alloc (.cells #[.int .i64 n, .slice a len cap] 24)) := (Below.refl _ _).alloc (Nat.le_refl _) _
  have bb : Below (w.alloc (.cells #[.int .i64 n, .slice a len cap] 24)).heap.size (w.alloc (.cells #[.int .i64 n, .slice a len cap] 24)) ((w.alloc (.cells #[.int .i64 n, .slice a len cap] 24)).alloc (.cells #[.int .i64 m, .slice a' len' cap'] 24)) := (Below.refl _ _).alloc (Nat.le_refl _) _
  have S1 : Hid (G2 w w.heap.size (w.heap.size + 1) n m (.slice a len cap) (.slice a' len' cap') xs ys ((w.alloc (.cells #[.int .i64 n, .slice a len cap] 24)).alloc (.cells #[.int .i64 m, .slice a' len' cap'] 24))) := by
    refine ⟨⟨(Gx.next (Gx.new n _ hv) bb).out, ?_⟩, ba.trans (bb.mono ba.size)⟩
    have := (Gx.new m 24 (hv'.below ba (Nat.le_refl _))).out
    rwa [World.size_alloc] at this
  have HZ := Lib.hid (fun (W : World) (h : G2 w w.heap.size (w.heap.size + 1) n m (.slice a len cap) (.slice a' len' cap') xs ys W) => sz_Design W n (.slice a len cap) xs 1048576 h.1.1.2 (by omega) (by omega))
  have HZ' := Lib.hid (fun (q : Int) (q0 : 0 ≤ q) (q1 : q ≤ 1048576) (W : World) (h : G2 w w.heap.size (w.heap.size + 1) n m (.slice a len cap) (.slice a' len' cap') xs ys W) => sz_Design W m (.slice a' len' cap') ys q h.1.2.2 q0 q1)
  have HS := Lib.hid (fun (u v : Value) (W : World) (h : RowsAt W u xs) (h' : RowsAt W v ys) => sSameDesign n m xs ys W u v h h')
  have HI := Lib.hid (fun (u v : Value) (W : World) (h : RowsAt W u xs) (h' : RowsAt W v ys) => iSameDesign n m xs ys W u v h h')
  obtain ⟨r, hr⟩ : ∃ r, sameG n m xs ys = r := ⟨_, rfl⟩
  rw [hr] at HS HI
  have rT : (r != r) = false := by simp
  clear hr hv hv' ba bb hlen hlen' hx hy
  go_enter Try.func4, Try.ntmps4
  obtain ⟨c0, c1⟩ := S1.out.1.1.1.cells
  go_wp2_with fail
  refine (HZ.out _ S1.out).mono ?_
  rintro e w2 ⟨q, rfl, hq, b2⟩
  have S2 := G2.next S1 b2
  clear b2 c0 c1
  by_cases k : q < 0
  · have t : decide (q < 0) = true := decide_eq_true k
    go_wp2
    go_ret
    exact ⟨rfl, S2.out.2⟩
  have t : decide (q < 0) = false := decide_eq_false k
  obtain ⟨hq1, hq2⟩ := hq (by omega)
  obtain ⟨d0, d1⟩ := S2.out.1.2.1.cells
  go_wp2_with fail
  refine (HZ'.out q (by omega) hq2 _ S2.out).mono ?_
  rintro e w3 ⟨q', rfl, hq', b3⟩
  have S3 := G2.next S2 b3
  clear b3 d0 d1
  by_cases k' : q' < 0
  · have t' : decide (q' < 0) = true := decide_eq_true k'
    go_wp2
    go_ret
    exact ⟨rfl, S3.out.2⟩
  have t' : decide (q' < 0) = false := decide_eq_false k'
  obtain ⟨hq3, -⟩ := hq' (by omega)
  have HTo := Lib.hid (fun (W : World) (h : G2 w w.heap.size (w.heap.size + 1) n m (.slice a len cap) (.slice a' len' cap') xs ys W) => copy_Design W n (.slice a len cap) xs h.1.1.2 (by omega))
  have HTo' := Lib.hid (fun (W : World) (h : G2 w w.heap.size (w.heap.size + 1) n m (.slice a len cap) (.slice a' len' cap') xs ys W) => copy_Design W m (.slice a' len' cap') ys h.1.2.2 (by omega))
  have S3d := G2.next S3 (Below.refl _ _).drew
  go_upto_region 8 with fail
  go_region_held3 (fun w' => w'.cell? ⟨w.heap.size, 0, none⟩ = some (.int .i64 n) ∧ w'.cell? ⟨w.heap.size, 1, none⟩ = some (.slice a len cap) ∧ w'.cell? ⟨w.heap.size + 1, 0, none⟩ = some (.int .i64 m) ∧ w'.cell? ⟨w.heap.size + 1, 1, none⟩ = some (.slice a' len' cap') ∧ Hid (G2 w w.heap.size (w.heap.size + 1) n m (.slice a len cap) (.slice a' len' cap') xs ys w')) (first | exact heldG2 (by assumption))
    (first | (go_at_call 8; (first | ((with_reducible refine (HTo.out _ (Hid.out (by assumption))).mono ?_); rintro e w4 ⟨v4, rfl, i4, b4⟩; have S4 := G2.next (by assumption) b4; have Iu := Lib.hid i4.at; (try have Iv2 := Lib.hid (RowsAt.below Iv.out b4 (Nat.le_refl _)))) | ((with_reducible refine (HTo'.out _ (Hid.out (by assumption))).mono ?_); rintro e w5 ⟨v5, rfl, i5, b5⟩; have S5 := G2.next (by assumption) b5; have Iv := Lib.hid i5.at; (try have Iu2 := Lib.hid (RowsAt.below Iu.out b5 (Nat.le_refl _)))))) | (go_at_call 11; (first | refine (HS.out _ _ _ Iu2.out Iv.out).mono ?_ | refine (HS.out _ _ _ Iu.out Iv2.out).mono ?_); rintro e w6 ⟨rfl, b6⟩; have S6 := G2.next (by assumption) b6))
  all_goals
    clear S3 S3d HZ HZ' S1 S2
    obtain ⟨c0, c1⟩ := S6.out.1.1.1.cells
    go_upto_region 10 with (go_at_call 8; refine (HTo.out _ S6.out).mono ?_; rintro e w7 ⟨v7, rfl, i7, b7⟩; have S7 := G2.next S6 b7; obtain ⟨a5, cap5, rfl, _⟩ := i7.at.shape; have I7 := Lib.hid i7.at; clear i7 b7)
    obtain ⟨n5, hn5⟩ : ∃ k, xs.length = k := ⟨_, rfl⟩
    rw [hn5] at I7 ⊢
    have X7 := Gx.new n 27 I7.out
    have S7a := G2.next S7 ((Below.refl w7.heap.size w7).alloc (Nat.le_refl _) (.cells #[.int .i64 n, .slice a5 n5 cap5] 27))
    obtain ⟨g2, hg2⟩ : ∃ g2, w7.heap.size = g2 := ⟨_, rfl⟩
    obtain ⟨w8, hw8⟩ : ∃ w8, w7.alloc (.cells #[.int .i64 n, .slice a5 n5 cap5] 27) = w8 := ⟨_, rfl⟩
    rw [hw8] at X7 S7a ⊢
    rw [hg2] at X7 ⊢
    clear hw8 hg2 S7 I7 S6 c0 c1 hn5
    obtain ⟨d0, d1⟩ := S7a.out.1.2.1.cells
    go_upto_region 11 with (go_at_call 8; refine (HTo'.out _ S7a.out).mono ?_; rintro e w9 ⟨v9, rfl, i9, b9⟩; have S9 := G2.next S7a b9; have X9 := Gx.next X7 b9; obtain ⟨a6, cap6, rfl, _⟩ := i9.at.shape; have I9 := Lib.hid i9.at; clear i9 b9)
    obtain ⟨n6, hn6⟩ : ∃ k, ys.length = k := ⟨_, rfl⟩
    rw [hn6] at I9 ⊢
    have Y9 := Gx.new m 27 I9.out
    have S9a := G2.next S9 ((Below.refl w9.heap.size w9).alloc (Nat.le_refl _) (.cells #[.int .i64 m, .slice a6 n6 cap6] 27))
    have X9a := Gx.next X9 ((Below.refl w9.heap.size w9).alloc (Nat.le_refl _) (.cells #[.int .i64 m, .slice a6 n6 cap6] 27))
    obtain ⟨g3, hg3⟩ : ∃ g3, w9.heap.size = g3 := ⟨_, rfl⟩
    obtain ⟨wa, hwa⟩ : ∃ wa, w9.alloc (.cells #[.int .i64 m, .slice a6 n6 cap6] 27) = wa := ⟨_, rfl⟩
    rw [hwa] at X9a Y9 S9a ⊢
    rw [hg3] at Y9 ⊢
    have A0 : Hid (G4 w w.heap.size (w.heap.size + 1) g2 g3 n m (.slice a len cap) (.slice a' len' cap') (.slice a5 n5 cap5) (.slice a6 n6 cap6) xs ys wa) := ⟨S9a.out.1, ⟨X9a.out, Y9.out⟩, S9a.out.2⟩
    clear hwa hg3 S9 X9 I9 S7a X7 d0 d1 Y9 S9a X9a hn6
    obtain ⟨e0, e1⟩ := A0.out.2.1.1.1.cells
    obtain ⟨f0, f1⟩ := A0.out.2.1.2.1.cells
    go_upto_region 14 with (go_at_call 12; refine (HI.out _ _ _ A0.out.2.1.1.2 A0.out.2.1.2.2).mono ?_; rintro e wb ⟨rfl, bb⟩; have A1 := G4.next A0 bb; clear bb)
    clear e0 e1 f0 f1 A0
    have A1d := G4.next A1 (Below.refl _ _).drew
    have HT4 := Lib.hid (fun (W : World) (h : G4 w w.heap.size (w.heap.size + 1) g2 g3 n m (.slice a len cap) (.slice a' len' cap') (.slice a5 n5 cap5) (.slice a6 n6 cap6) xs ys W) => copy_Design W n (.slice a len cap) xs h.1.1.2 (by omega))
    have HT4' := Lib.hid (fun (W : World) (h : G4 w w.heap.size (w.heap.size + 1) g2 g3 n m (.slice a len cap) (.slice a' len' cap') (.slice a5 n5 cap5) (.slice a6 n6 cap6) xs ys W) => copy_Design W m (.slice a' len' cap') ys h.1.2.2 (by omega))
    have HE := Lib.hid (fun (u : Value) (W : World) (h1 : RowsAt W (.slice a5 n5 cap5) xs) (h2 : RowsAt W u xs) => eq_Design W n (.slice a5 n5 cap5) u xs h1 h2)
    have HE' := Lib.hid (fun (u : Value) (W : World) (h1 : RowsAt W (.slice a6 n6 cap6) ys) (h2 : RowsAt W u ys) => eq_Design W m (.slice a6 n6 cap6) u ys h1 h2)
    go_region_held3 (fun w' => (w'.cell? ⟨w.heap.size, 0, none⟩ = some (.int .i64 n) ∧ w'.cell? ⟨w.heap.size, 1, none⟩ = some (.slice a len cap)) ∧ (w'.cell? ⟨w.heap.size + 1, 0, none⟩ = some (.int .i64 m) ∧ w'.cell? ⟨w.heap.size + 1, 1, none⟩ = some (.slice a' len' cap')) ∧ (w'.cell? ⟨g2, 0, none⟩ = some (.int .i64 n) ∧ w'.cell? ⟨g2, 1, none⟩ = some (.slice a5 n5 cap5)) ∧ (w'.cell? ⟨g3, 0, none⟩ = some (.int .i64 m) ∧ w'.cell? ⟨g3, 1, none⟩ = some (.slice a6 n6 cap6)) ∧ Hid (G4 w w.heap.size (w.heap.size + 1) g2 g3 n m (.slice a len cap) (.slice a' len' cap') (.slice a5 n5 cap5) (.slice a6 n6 cap6) xs ys w')) (first | exact heldG4 (by assumption))
      (first | (go_at_call 8; refine (HT4.out _ (Hid.out (by assumption))).mono ?_; rintro e wc ⟨vc, rfl, ic, bc⟩; have A2 := G4.next (by assumption) bc; have Ic := Lib.hid ic.at) | (go_at_call 10; refine (HE.out _ _ A2.out.2.1.1.2 Ic.out).mono ?_; rintro e wd ⟨rfl, bd⟩; have A3 := G4.next A2 bd))
    clear A1 A1d A2 Ic
    go_upto_region 16 with fail
    have A3d := G4.next A3 (Below.refl _ _).drew
    go_region_held3 (fun w' => (w'.cell? ⟨w.heap.size, 0, none⟩ = some (.int .i64 n) ∧ w'.cell? ⟨w.heap.size, 1, none⟩ = some (.slice a len cap)) ∧ (w'.cell? ⟨w.heap.size + 1, 0, none⟩ = some (.int .i64 m) ∧ w'.cell? ⟨w.heap.size + 1, 1, none⟩ = some (.slice a' len' cap')) ∧ (w'.cell? ⟨g2, 0, none⟩ = some (.int .i64 n) ∧ w'.cell? ⟨g2, 1, none⟩ = some (.slice a5 n5 cap5)) ∧ (w'.cell? ⟨g3, 0, none⟩ = some (.int .i64 m) ∧ w'.cell? ⟨g3, 1, none⟩ = some (.slice a6 n6 cap6)) ∧ Hid (G4 w w.heap.size (w.heap.size + 1) g2 g3 n m (.slice a len cap) (.slice a' len' cap') (.slice a5 n5 cap5) (.slice a6 n6 cap6) xs ys w')) (first | exact heldG4 (by assumption))
      (first | (go_at_call 8; refine (HT4'.out _ (Hid.out (by assumption))).mono ?_; rintro e we ⟨ve, rfl, ie, be⟩; have A4 := G4.next (by assumption) be; have Ie := Lib.hid ie.at) | (go_at_call 10; refine (HE'.out _ _ A4.out.2.1.2.2 Ie.out).mono ?_; rintro e wf ⟨rfl, bf⟩; have A5 := G4.next A4 bf))
    go_wp2
    go_ret
    exact ⟨rfl, A5.out.2.2⟩
end Go.Proofs.Ytpgjomndfkkchaa
