/- Isotope: both sides. -/
import Derived.Test.YtkbkaphgieimoaaMvd
namespace Go.Proofs.Ytkbkaphgieimoaa
open Go.RowKit Go.Shelf
set_option linter.unusedVariables false

/-- Where the cell in row x and column y goes. -/
def isoMv (xss : List (List Int)) (rs cs ss : List Int) : Nat → Nat → Nat × Nat × Int := fun x y => ((rs.getD x 0).toNat, (cs.getD y 0).toNat, ss.getD (cellF xss x y).toNat 0)
def isoL (xss : List (List Int)) (rs cs ss : List Int) : List (List Int) := gridL xss.length xss.length (movSt xss.length (isoMv xss rs cs ss) xss.length)
noncomputable def isoOk (n : Nat) (rs cs ss : List Int) : Bool := hpB n [rs, cs, ss]
noncomputable def Isotope_0 (xss : List (List Int)) (rs cs ss : List Int) : List (List Int) := if sqB xss = true ∧ isoOk xss.length rs cs ss = true then isoL xss rs cs ss else []
noncomputable def Isotope_1 (xss : List (List Int)) (rs cs ss : List Int) : Int := if sqB xss = true then if isoOk xss.length rs cs ss = true then 0 else 2 else 1
theorem Iso_bad {xss : List (List Int)} {rs cs ss : List Int} (h : sqB xss = false) : Isotope_0 xss rs cs ss = [] ∧ Isotope_1 xss rs cs ss = 1 := by unfold Isotope_0 Isotope_1; rw [h]; exact ⟨rfl, rfl⟩
theorem Iso_no {xss : List (List Int)} {rs cs ss : List Int} (h : sqB xss = true) (k : isoOk xss.length rs cs ss = false) : Isotope_0 xss rs cs ss = [] ∧ Isotope_1 xss rs cs ss = 2 := by unfold Isotope_0 Isotope_1; rw [h, k]; exact ⟨rfl, rfl⟩
theorem Iso_ok {xss : List (List Int)} {rs cs ss : List Int} (h : sqB xss = true) (k : isoOk xss.length rs cs ss = true) : Isotope_0 xss rs cs ss = isoL xss rs cs ss ∧ Isotope_1 xss rs cs ss = 0 := by unfold Isotope_0 Isotope_1; rw [h, k]; exact ⟨rfl, rfl⟩
theorem lenIsotope_0 (xss : List (List Int)) (rs cs ss : List Int) (hx : SmallLL xss) (h1 : SmallL rs) (h2 : SmallL cs) (h3 : SmallL ss) : (Isotope_0 xss rs cs ss).length + tot (Isotope_0 xss rs cs ss) ≤ 2000000 := by
  cases e : sqB xss with
  | false => rw [(Iso_bad e).1]; decide
  | true =>
    cases k : isoOk xss.length rs cs ss with
    | false => rw [(Iso_no e k).1]; decide
    | true =>
      have := (of_sqB e).hi
      rw [(Iso_ok e k).1]
      unfold isoL
      rw [gridL_length, tot_gridL]
      have : xss.length * xss.length ≤ 10 * 10 := Nat.mul_le_mul this this
      omega
/-- A permutation of a degree: its members. -/
theorem pm_mem {n : Nat} {rs : List Int} (h1 : rs.length = n) (h2 : pmB rs = true) {i : Nat} (hi : i < n) : 0 ≤ rs.getD i 0 ∧ rs.getD i 0 < n := by
  have := (of_pmB h2).2 i (by omega)
  unfold okPm at this
  omega
theorem isoOk_parts {n : Nat} {rs cs ss : List Int} (h : isoOk n rs cs ss = true) : (rs.length = n ∧ pmB rs = true) ∧ (cs.length = n ∧ pmB cs = true) ∧ (ss.length = n ∧ pmB ss = true) :=
  ⟨of_hpB h 0 (by simp), of_hpB h 1 (by simp), of_hpB h 2 (by simp)⟩
theorem isoMv_lt {xss : List (List Int)} {rs cs ss : List Int} (h : isoOk xss.length rs cs ss = true) {x y : Nat} (hx : x < xss.length) (hy : y < xss.length) : (isoMv xss rs cs ss x y).1 < xss.length ∧ (isoMv xss rs cs ss x y).2.1 < xss.length := by
  obtain ⟨⟨a1, a2⟩, ⟨b1, b2⟩, _⟩ := isoOk_parts h
  have := pm_mem a1 a2 hx
  have := pm_mem b1 b2 hy
  unfold isoMv
  simp only
  omega

set_option maxRecDepth 100000 in
set_option maxHeartbeats 8000000 in
theorem iisoclo (W : World) (b1 b2 b3 n : Nat) (vr vc vs : Value) (rs cs ss : List Int) (h1 : W.cell? ⟨b1, 0, none⟩ = some vr) (h2 : W.cell? ⟨b2, 0, none⟩ = some vc) (h3 : W.cell? ⟨b3, 0, none⟩ = some vs)
    (i1 : IntsAt W vr rs) (i2 : IntsAt W vc cs) (i3 : IntsAt W vs ss) (l1 : rs.length = n) (l2 : cs.length = n) (l3 : ss.length = n) (hn : n ≤ 10) (x y z : Nat) (hx : x < n) (hy : y < n) (hz : z < n) :
    Calls Try.prog 63 #[.agg #[.int .i64 x, .int .i64 y, .int .i64 z], .pointer (some ⟨b1, 0, none⟩), .pointer (some ⟨b2, 0, none⟩), .pointer (some ⟨b3, 0, none⟩)] W fun e W' =>
      e = .returned (.agg #[.int .i64 (rs.getD x 0), .int .i64 (cs.getD y 0), .int .i64 (ss.getD z 0)]) ∧ Below W.heap.size W W' := by
  obtain ⟨a1, c1, rfl, k1⟩ := part2 i1
  obtain ⟨a2, c2, rfl, k2⟩ := part2 i2
  obtain ⟨a3, c3, rfl, k3⟩ := part2 i3
  obtain ⟨g1, o1, rfl, y1, m1⟩ := k1 x (by omega)
  obtain ⟨g2, o2, rfl, y2, m2⟩ := k2 y (by omega)
  obtain ⟨g3, o3, rfl, y3, m3⟩ := k3 z (by omega)
  obtain ⟨r, hr⟩ : ∃ r, rs.getD x 0 = r := ⟨_, rfl⟩
  obtain ⟨s, hs⟩ : ∃ s, cs.getD y 0 = s := ⟨_, rfl⟩
  obtain ⟨t, ht⟩ : ∃ t, ss.getD z 0 = t := ⟨_, rfl⟩
  rw [hr] at m1 ⊢
  rw [hs] at m2 ⊢
  rw [ht] at m3 ⊢
  rw [l1] at h1
  rw [l2] at h2
  rw [l3] at h3
  have bl1 := World.block_lt_of_cell? W _ h1
  have bl2 := World.block_lt_of_cell? W _ h2
  have bl3 := World.block_lt_of_cell? W _ h3
  simp only at bl1 bl2 bl3
  obtain ⟨g, hg⟩ : ∃ g, W.heap.size = g := ⟨_, rfl⟩
  have z1 : (W.alloc (.cells #[.int .i64 x, .int .i64 y, .int .i64 z] 74)).heap.size = g + 1 := by rw [World.size_alloc, hg]
  have B1 : Below g W (W.alloc (.cells #[.int .i64 x, .int .i64 y, .int .i64 z] 74)) := (Below.refl _ _).alloc (by omega) _
  have T1 : (W.alloc (.cells #[.int .i64 x, .int .i64 y, .int .i64 z] 74)).heap[g]? = some (.cells #[.int .i64 x, .int .i64 y, .int .i64 z] 74 (0, 0)) := by rw [← hg]; exact heap_alloc_new _ _
  obtain ⟨w1, hw1⟩ : ∃ w1, W.alloc (.cells #[.int .i64 x, .int .i64 y, .int .i64 z] 74) = w1 := ⟨_, rfl⟩
  rw [hw1] at z1 B1 T1
  have B2 : Below g W (w1.alloc (.cells #[.int .i64 0, .int .i64 0, .int .i64 0] 74)) := B1.alloc (by omega) _
  have T2 : (w1.alloc (.cells #[.int .i64 0, .int .i64 0, .int .i64 0] 74)).heap[g]? = some (.cells #[.int .i64 x, .int .i64 y, .int .i64 z] 74 (0, 0)) := (heap_alloc_old _ _ (by omega)).trans T1
  have Q2 : (w1.alloc (.cells #[.int .i64 0, .int .i64 0, .int .i64 0] 74)).heap[g + 1]? = some (.cells #[.int .i64 0, .int .i64 0, .int .i64 0] 74 (0, 0)) := by rw [← z1]; exact heap_alloc_new _ _
  obtain ⟨w2, hw2⟩ : ∃ w2, w1.alloc (.cells #[.int .i64 0, .int .i64 0, .int .i64 0] 74) = w2 := ⟨_, rfl⟩
  rw [hw2] at B2 T2 Q2
  obtain ⟨wd, hwd⟩ : ∃ wd, w2.drew = wd := ⟨_, rfl⟩
  have B3 : Below g W wd := by rw [← hwd]; exact B2.drew
  have T3 : wd.heap[g]? = some (.cells #[.int .i64 x, .int .i64 y, .int .i64 z] 74 (0, 0)) := by rw [← hwd]; exact T2
  have Q3 : wd.heap[g + 1]? = some (.cells #[.int .i64 0, .int .i64 0, .int .i64 0] 74 (0, 0)) := by rw [← hwd]; exact Q2
  have e1 : wd.cell? ⟨g, 0, none⟩ = some (.int .i64 x) := by rw [cell_of_row wd g 0 _ _ _ T3]; rfl
  have e2 : wd.cell? ⟨g, 1, none⟩ = some (.int .i64 y) := by rw [cell_of_row wd g 1 _ _ _ T3]; rfl
  have e3 : wd.cell? ⟨g, 2, none⟩ = some (.int .i64 z) := by rw [cell_of_row wd g 2 _ _ _ T3]; rfl
  have f1 := (B3.cell (p := ⟨b1, 0, none⟩) (by simp only; omega)).trans h1
  have f2 := (B3.cell (p := ⟨b2, 0, none⟩) (by simp only; omega)).trans h2
  have f3 := (B3.cell (p := ⟨b3, 0, none⟩) (by simp only; omega)).trans h3
  have d1 := (B3.cell (p := ⟨g1, o1 + x, none⟩) (by simp only; omega)).trans m1
  have d2 := (B3.cell (p := ⟨g2, o2 + y, none⟩) (by simp only; omega)).trans m2
  have d3 := (B3.cell (p := ⟨g3, o3 + z, none⟩) (by simp only; omega)).trans m3
  have x0 : (0 : Int) ≤ (x : Int) := by omega
  have y0 : (0 : Int) ≤ (y : Int) := by omega
  have z0 : (0 : Int) ≤ (z : Int) := by omega
  have x1 : (x : Int) < (n : Int) := by omega
  have y1' : (y : Int) < (n : Int) := by omega
  have z1' : (z : Int) < (n : Int) := by omega
  have P4 : Hid ((wd.setRow (g + 1) #[.int .i64 r, .int .i64 s, .int .i64 t]).heap[g + 1]? = some (.cells #[.int .i64 r, .int .i64 s, .int .i64 t] 74 (0, 0))) := setRow_heap _ _ _ _ _ _ Q3
  have P5 : Hid (Below g W (wd.setRow (g + 1) #[.int .i64 r, .int .i64 s, .int .i64 t])) := below_setRow B3 (by omega) _
  have HQ := Lib.hid Q3
  rw [hg]
  clear i1 i2 i3 k1 k2 k3 hr hs ht l1 l2 l3 h1 h2 h3 m1 m2 m3 B1 B2 B3 T1 T2 T3 Q2 Q3
  go_enter Try.func63, Try.ntmps63
  go_wp2
  refine wp_region_still_tail 16 (by kernel_rfl) (by kernel_rfl) ?_
  simp only [List.take_succ_cons, List.take_zero, List.drop_succ_cons, List.drop_zero]
  change wpStill _ _ w2.drew _ _ _
  rw [hwd]
  repeat still_step
  refine wpStill_nil ?_
  change wpList _ _ _ _ _ w2.drew
  rw [hwd]
  clear hwd hw1 hw2
  refine wpList_store_row rfl 74 (.tmp 5) (.tmp 21) rfl _ #[.int .i64 r, .int .i64 s, .int .i64 t] rfl rfl _ _ HQ.out (by kernel_rfl) (by rfl) (by simp [Value.oneCell']) ?_
  go_wp2
  refine bodyPost_ret (v := .agg #[.int .i64 r, .int .i64 s, .int .i64 t]) (results_cell_row Try.results63 _ _ _ _ _ _ _ rfl P4.out Try.underlying74 rfl (by kernel_rfl)) rfl ⟨rfl, P5.out⟩
end Go.Proofs.Ytkbkaphgieimoaa
