/- Orders of planes: the program's ordersOf, AffineOrder, ProjectiveOrder; affinePlaneOf. -/
import Derived.Test.YtdhlnagkhkcoiaaDoorPla
namespace Go.Proofs.YtdhlnagkhkcoiaaDoor
open Go.RowKit Go.Shelf
set_option linter.unusedVariables false
set_option linter.unusedSimpArgs false

theorem kz_nat (xss : List (List Int)) : ∃ z : Nat, kzI xss = z := by
  unfold kzI lens
  by_cases h : 0 < xss.length
  · exact ⟨_, stL_getD _ _ _ h⟩
  · refine ⟨0, ?_⟩
    obtain rfl : xss = [] := List.eq_nil_of_length_eq_zero (by omega)
    rfl
theorem bits_below {n : Int} {N : Nat} {xss : List (List Int)} {S : Nat → Nat} {m : Nat} (hn : n = N) (hm : xss.length = m) (D : Des n xss) (hS : SetsF xss m S) : ∀ i, i < m → ∀ k, (S i).testBit k = true → k < N := fun i hi k hk => by
  have e := (hS i hi).2 k
  rw [hk] at e
  have mem := of_decide_eq_true e.symm
  obtain ⟨q, hq, e2⟩ := List.mem_iff_getElem.1 mem
  have bk := (D.2.2.2 i (by omega)).1.2 q hq
  unfold okAt at bk
  rw [List.getD_eq_getElem?_getD, List.getElem?_eq_getElem hq] at bk
  simp only [Option.getD_some, e2] at bk
  omega
theorem iPlaneX (N m g : Nat) (S : Nat → Nat) (xss : List (List Int)) (hm : xss.length = m) (D : Des (N : Int) xss) (hS : SetsF xss m S) (z : Nat) (hz : kzI xss = z) (w : World) (hU : Ub w g m S) (ht : Tab w) :
    Calls Tryd.prog 54 #[.agg #[.int .i64 (N : Int), .slice (some ⟨g, 0, none⟩) m m]] w fun e w' => ∃ v, e = .returned v ∧ PlOut N m g (dPar N xss) z (pzI N xss) v ∧ Below w.heap.size w w' := by
  have n1 := D.1
  have n32 := D.2.1
  have m128 := D.2.2.1
  have E1 : szS m S = lens xss := sz_lens hm (show (N : Int) ≤ 32 by omega) (fun i hi => (D.2.2.2 i (by omega)).1) (fun i hi k => (hS i hi).2 k)
  have E2 : prF m (fun i x => (S i).testBit x) = prF m (memP xss) := prF_congr fun i x hi => (hS i hi).2 x
  refine iPlane N m (by omega) (by omega) (by omega) S g w hU (fun i hi => (hS i hi).1) (bits_below rfl hm D hS) ht (dPar N xss) ?_ z ?_ (pzI N xss) ?_
  · rw [E1, E2]; unfold dPar; rw [Int.toNat_natCast, hm]
  · intro _; rw [E1]; exact hz
  · intro _; rw [E2]; unfold pzI; rw [Int.toNat_natCast, hm]

theorem Tryd.infoAf : (Tryd.prog.info? 55).map (·.size) = some 3 := by kernel_rfl
theorem threeA (W : World) (g : Nat) (z0 z1 z2 a b c : Value) (T : TypeId) (h : W.heap[g]? = some (.cells #[z0, z1, z2] T (0, 0))) :
    (((W.setCell ⟨g, 0, none⟩ a).setCell ⟨g, 1, none⟩ b).setCell ⟨g, 2, none⟩ c).heap[g]? = some (.cells #[a, b, c] T (0, 0)) ∧
    (∀ B w, B ≤ g → Below B w W → Below B w (((W.setCell ⟨g, 0, none⟩ a).setCell ⟨g, 1, none⟩ b).setCell ⟨g, 2, none⟩ c)) ∧
    (∀ i, i ≠ g → (((W.setCell ⟨g, 0, none⟩ a).setCell ⟨g, 1, none⟩ b).setCell ⟨g, 2, none⟩ c).heap[i]? = W.heap[i]?) := by
  have h0 := heap_setCell_same W g 0 _ _ a h
  have h1 := heap_setCell_same _ g 1 _ _ b h0
  have h2 := heap_setCell_same _ g 2 _ _ c h1
  refine ⟨h2.trans rfl, fun B w hB hb => ((hb.setCell (p := ⟨g, 0, none⟩) hB _).setCell (p := ⟨g, 1, none⟩) hB _).setCell (p := ⟨g, 2, none⟩) hB _, fun i hi => ?_⟩
  rw [Below.heap_setCell _ _ _ i hi, Below.heap_setCell _ _ _ i hi, Below.heap_setCell _ _ _ i hi]
theorem cells3A (W : World) (g : Nat) (z0 z1 z2 : Value) (T : TypeId) (h : W.heap[g]? = some (.cells #[z0, z1, z2] T (0, 0))) :
    W.cell? ⟨g, 0, none⟩ = some z0 ∧ W.cell? ⟨g, 1, none⟩ = some z1 ∧ W.cell? ⟨g, 2, none⟩ = some z2 ∧
    W.frozen? ⟨g, 0, none⟩ = false ∧ W.frozen? ⟨g, 1, none⟩ = false ∧ W.frozen? ⟨g, 2, none⟩ = false :=
  ⟨by rw [cell_of_row W g 0 _ _ _ h]; rfl, by rw [cell_of_row W g 1 _ _ _ h]; rfl, by rw [cell_of_row W g 2 _ _ _ h]; rfl,
    frozen_of_row W g 0 _ _ h, frozen_of_row W g 1 _ _ h, frozen_of_row W g 2 _ _ h⟩
theorem cells2A (W : World) (g : Nat) (z0 z1 : Value) (T : TypeId) (h : W.heap[g]? = some (.cells #[z0, z1] T (0, 0))) :
    W.cell? ⟨g, 0, none⟩ = some z0 ∧ W.cell? ⟨g, 1, none⟩ = some z1 :=
  ⟨by rw [cell_of_row W g 0 _ _ _ h]; rfl, by rw [cell_of_row W g 1 _ _ _ h]; rfl⟩

set_option maxRecDepth 100000 in
set_option maxHeartbeats 4000000 in
theorem iOrders (n : Int) (xss : List (List Int)) (hx : xss.length ≤ 1048576) (w : World) (v : Value) (hv : RowsAt w v xss) (ht : Tab w) :
    Calls Tryd.prog 32 #[.agg #[.int .i64 n, v]] w fun e w' => e = .returned (.tuple #[.int .i64 (AffineOrder_0 n xss), .int .i64 (ProjectiveOrder_0 n xss)]) ∧ Below w.heap.size w w' := by
  obtain ⟨va, cap, rfl, -⟩ := hv.shape
  obtain ⟨m, hm⟩ : ∃ m, xss.length = m := ⟨_, rfl⟩
  rw [hm] at hv ⊢
  obtain ⟨B, hB⟩ : ∃ B, w.heap.size = B := ⟨_, rfl⟩
  have hpos : 0 < B := by rw [← hB]; exact ht.pos
  obtain ⟨w1, hw1⟩ : ∃ w1, w.alloc (.cells #[.int .i64 n, .slice va m cap] 27) = w1 := ⟨_, rfl⟩
  have z1 : w1.heap.size = B + 1 := by rw [← hw1, World.size_alloc, hB]
  have b1 : Below B w w1 := by rw [← hw1]; exact (Below.refl _ _).alloc (by omega) _
  have A1 : w1.heap[B]? = some (.cells #[.int .i64 n, .slice va m cap] 27 (0, 0)) := by rw [← hw1, ← hB]; exact heap_alloc_new _ _
  obtain ⟨c0, c1⟩ := cells2A w1 B _ _ _ A1
  have HO := Lib.hid (iInc n xss hx w1 _ (hv.below b1 (by omega)) (ht.below b1 hpos))
  rw [z1] at HO
  have HB := Lib.hid hB
  have B1 := Lib.hid b1
  have TB := Lib.hid ht
  have BA : Hid (∀ W cs T, Below B w W → Below B w (W.alloc (.cells cs T))) := fun W cs T h => h.alloc (by have := h.size; omega) _
  have as1 : ∀ v W, (Instr.typeAssert (.iface 55 v) 20 55 true).run Tryd.prog W = .ok (.tuple #[v, .bool true]) W := fun v W => by kernel_rfl
  have as2 : ∀ v W, (Instr.typeAssert (.iface 87 v) 20 55 true).run Tryd.prog W = .ok (.tuple #[.agg #[.int .i64 0, .slice none 0 0, .int .i64 0], .bool false]) W := fun v W => by kernel_rfl
  have as3 : ∀ W, (Instr.typeAssert .nilIface 20 55 true).run Tryd.prog W = .ok (.tuple #[.agg #[.int .i64 0, .slice none 0 0, .int .i64 0], .bool false]) W := fun W => by kernel_rfl
  have as4 : ∀ v W, (Instr.typeAssert (.iface 87 v) 20 87 true).run Tryd.prog W = .ok (.tuple #[v, .bool true]) W := fun v W => by kernel_rfl
  have as5 : ∀ W, (Instr.typeAssert .nilIface 20 87 true).run Tryd.prog W = .ok (.tuple #[.agg #[.int .i64 0, .slice none 0 0, .int .i64 0], .bool false]) W := fun W => by kernel_rfl
  clear hv A1 b1 z1 ht
  cases hp : desB n xss with
  | false =>
    obtain ⟨V0, V1⟩ := aff_no hp
    have V0 := Lib.hid V0
    have V1 := Lib.hid V1
    rw [hp] at HO
    clear hp
    go_enter Tryd.func32, Tryd.ntmps32
    go_wp2_with fail
    try rw [hw1]
    refine HO.out.mono ?_
    rintro e w3 ⟨z, rfl, ⟨hz, -⟩, b3⟩
    obtain rfl := hz rfl
    have B3 : Below B w w3 := B1.out.trans (b3.mono (by omega))
    have B4 : Hid (Below B w (w3.alloc (.cells #[.int .i64 0, .slice none 0 0] 53))) := BA.out _ _ _ B3
    clear b3 B3 c0 c1
    go_wp2
    go_ret2
    exact ⟨by rw [V0.out, V1.out]; rfl, by rw [HB.out]; exact B4.out⟩
  | true =>
    have D := of_desB hp
    obtain ⟨N, rfl⟩ : ∃ N : Nat, n = N := ⟨n.toNat, by have := D.1; omega⟩
    obtain ⟨z, hz⟩ := kz_nat xss
    have HPl := Lib.hid (fun g S W (hS : SetsF xss m S) (hU : Ub W g m S) (t : Tab W) => iPlaneX N m g S xss hm D hS z hz W hU t)
    have VN : Hid (¬ (dPar N xss = true ∧ pzI N xss = 1) → AffineOrder_0 N xss = 0 ∧ ProjectiveOrder_0 N xss = 0) := fun h => by
      by_cases h1 : dPar N xss = true
      · exact aff_nolam (fun e => h ⟨h1, e⟩)
      · exact aff_nobal (by simpa using h1)
    have VA := Lib.hid (fun h1 h2 h3 h4 => aff_yes (n := N) (xss := xss) (z := z) hp h1 h2 hz h3 h4)
    have VP := Lib.hid (fun h1 h2 h3 h4 => prj_yes (n := N) (xss := xss) (z := z) hp h1 h2 hz h3 h4)
    have VO := Lib.hid (fun h1 h2 => aff_other (n := N) (xss := xss) (z := z) hz h1 h2)
    rw [hp] at HO
    clear hp hz D
    go_enter Tryd.func32, Tryd.ntmps32
    go_wp2_with fail
    try rw [hw1]
    refine HO.out.mono ?_
    rintro e w3 ⟨zv, rfl, ⟨-, hzv⟩, b3⟩
    obtain ⟨g, S, rfl, hg, hU, hS⟩ := hzv rfl
    rw [hm] at hU hS ⊢
    have B3 : Below B w w3 := B1.out.trans (b3.mono (by omega))
    have s3 := B3.size
    obtain ⟨w4, hw4⟩ : ∃ w4, w3.alloc (.cells #[.int .i64 (N : Int), .slice (some ⟨g, 0, none⟩) m m] 53) = w4 := ⟨_, rfl⟩
    have b34 : Below w3.heap.size w3 w4 := by rw [← hw4]; exact (Below.refl _ _).alloc (Nat.le_refl _) _
    have B4 : Below B w w4 := B3.trans (b34.mono (by omega))
    have N4 : w4.heap[w3.heap.size]? = some (.cells #[.int .i64 (N : Int), .slice (some ⟨g, 0, none⟩) m m] 53 (0, 0)) := by rw [← hw4]; exact heap_alloc_new _ _
    obtain ⟨e0, e1⟩ := cells2A w4 _ _ _ _ N4
    have HR := Lib.hid (HPl.out g S w4 hS (hU.below b34 hU.lt) (TB.out.below B4 hpos))
    have BB4 := Lib.hid B4
    clear b3 hU hS B3 b34 N4 c0 c1 s3 hg hm B4
    go_wp2_with fail
    try rw [hw4]
    refine HR.out.mono ?_
    rintro e w5 ⟨pv, rfl, hpl, b5⟩
    have B5 : Hid (Below B w w5) := BB4.out.trans (b5.mono (by have := BB4.out.size; have := HB.out; omega))
    clear b5 e0 e1
    cases hpl with
    | none h =>
      obtain ⟨V0, V1⟩ := VN.out h
      have V0 := Lib.hid V0
      have V1 := Lib.hid V1
      replace h := Lib.hid h
      go_wp2
      go_ret2
      exact ⟨by rw [V0.out, V1.out]; rfl, by rw [HB.out]; exact B5.out⟩
    | other h hp hn h2 =>
      obtain ⟨V0, V1⟩ := VO.out hn h2
      have V0 := Lib.hid V0
      have V1 := Lib.hid V1
      replace hp := Lib.hid hp
      replace hn := Lib.hid hn
      replace h2 := Lib.hid h2
      replace h := Lib.hid h
      go_wp2
      go_ret2
      exact ⟨by rw [V0.out, V1.out]; rfl, by rw [HB.out]; exact B5.out⟩
    | aff h hp h2 hn =>
      obtain ⟨V0, V1⟩ := VA.out h hp h2 hn
      have V0 := Lib.hid V0
      have V1 := Lib.hid V1
      replace hp := Lib.hid hp
      replace hn := Lib.hid hn
      replace h := Lib.hid h
      obtain ⟨w6, hw6⟩ : ∃ w6, w5.alloc (.cells #[.int .i64 (N : Int), .slice (some ⟨g, 0, none⟩) m m, .int .i64 (z : Int)] 55) = w6 := ⟨_, rfl⟩
      have N6 : w6.heap[w5.heap.size]? = some (.cells #[.int .i64 (N : Int), .slice (some ⟨g, 0, none⟩) m m, .int .i64 (z : Int)] 55 (0, 0)) := by rw [← hw6]; exact heap_alloc_new _ _
      have B6 : Hid (Below B w w6) := by rw [← hw6]; exact BA.out _ _ _ B5.out
      obtain ⟨f0, f1, f2, -, -, -⟩ := cells3A w6 _ _ _ _ _ N6
      clear N6
      unfold affV
      go_wp2
      try rw [hw6]
      go_ret2
      exact ⟨by rw [V0.out, V1.out]; rfl, by rw [HB.out]; exact B6.out⟩
    | prj h hp h2 hn =>
      obtain ⟨V0, V1⟩ := VP.out h hp h2 hn
      have V0 := Lib.hid V0
      have V1 := Lib.hid V1
      replace hp := Lib.hid hp
      replace hn := Lib.hid hn
      replace h := Lib.hid h
      obtain ⟨y, hy⟩ : ∃ y, (z : Int) - 1 = y := ⟨_, rfl⟩
      rw [hy] at V1
      unfold prjV
      rw [hy]
      obtain ⟨w6, hw6⟩ : ∃ w6, w5.alloc (.cells #[.int .i64 (N : Int), .slice (some ⟨g, 0, none⟩) m m, .int .i64 y] 87) = w6 := ⟨_, rfl⟩
      have N6 : w6.heap[w5.heap.size]? = some (.cells #[.int .i64 (N : Int), .slice (some ⟨g, 0, none⟩) m m, .int .i64 y] 87 (0, 0)) := by rw [← hw6]; exact heap_alloc_new _ _
      have B6 : Hid (∀ d, Below B w (w6.drewN d)) := fun d => by rw [← hw6]; exact below_drewN (BA.out _ _ _ B5.out) d
      obtain ⟨f0, f1, f2, -, -, -⟩ := cells3A w6 _ _ _ _ _ N6
      have f2' : w6.drew.cell? ⟨w5.heap.size, 2, none⟩ = some (.int .i64 y) := f2
      clear N6 hy
      go_wp2
      try rw [hw6]
      go_quiet (fail)
      go_wp2
      go_ret2
      exact ⟨by rw [V0.out, V1.out]; rfl, by rw [HB.out]; exact B6.out _⟩

set_option maxRecDepth 100000 in
set_option maxHeartbeats 4000000 in
theorem iAffineOrder (n : Int) (xss : List (List Int)) (hx : xss.length ≤ 1048576) (w : World) (v : Value) (hv : RowsAt w v xss) (ht : Tab w) :
    Calls Tryd.prog 11 #[.agg #[.int .i64 n, v]] w fun e w' => e = .returned (.int .i64 (AffineOrder_0 n xss)) ∧ Below w.heap.size w w' := by
  obtain ⟨va, cap, rfl, -⟩ := hv.shape
  obtain ⟨m, hm⟩ : ∃ m, xss.length = m := ⟨_, rfl⟩
  rw [hm] at hv ⊢
  obtain ⟨B, hB⟩ : ∃ B, w.heap.size = B := ⟨_, rfl⟩
  have hpos : 0 < B := by rw [← hB]; exact ht.pos
  obtain ⟨w1, hw1⟩ : ∃ w1, w.alloc (.cells #[.int .i64 n, .slice va m cap] 27) = w1 := ⟨_, rfl⟩
  have z1 : w1.heap.size = B + 1 := by rw [← hw1, World.size_alloc, hB]
  have b1 : Below B w w1 := by rw [← hw1]; exact (Below.refl _ _).alloc (by omega) _
  have A1 : w1.heap[B]? = some (.cells #[.int .i64 n, .slice va m cap] 27 (0, 0)) := by rw [← hw1, ← hB]; exact heap_alloc_new _ _
  obtain ⟨c0, c1⟩ := cells2A w1 B _ _ _ A1
  have HO := Lib.hid (iOrders n xss hx w1 _ (hv.below b1 (by omega)) (ht.below b1 hpos))
  have B1 := Lib.hid b1
  have Z1 := Lib.hid z1
  have HB := Lib.hid hB
  clear hv A1 b1 z1 ht
  go_enter Tryd.func11, Tryd.ntmps11
  go_wp2_with fail
  try rw [hw1]
  refine HO.out.mono ?_
  rintro e w3 ⟨rfl, b3⟩
  have B3 : Hid (Below B w w3) := B1.out.trans (b3.mono (by have := Z1.out; omega))
  clear b3
  go_wp2
  go_ret
  exact ⟨rfl, by rw [HB.out]; exact B3.out⟩
set_option maxRecDepth 100000 in
set_option maxHeartbeats 4000000 in
theorem iProjectiveOrder (n : Int) (xss : List (List Int)) (hx : xss.length ≤ 1048576) (w : World) (v : Value) (hv : RowsAt w v xss) (ht : Tab w) :
    Calls Tryd.prog 14 #[.agg #[.int .i64 n, v]] w fun e w' => e = .returned (.int .i64 (ProjectiveOrder_0 n xss)) ∧ Below w.heap.size w w' := by
  obtain ⟨va, cap, rfl, -⟩ := hv.shape
  obtain ⟨m, hm⟩ : ∃ m, xss.length = m := ⟨_, rfl⟩
  rw [hm] at hv ⊢
  obtain ⟨B, hB⟩ : ∃ B, w.heap.size = B := ⟨_, rfl⟩
  have hpos : 0 < B := by rw [← hB]; exact ht.pos
  obtain ⟨w1, hw1⟩ : ∃ w1, w.alloc (.cells #[.int .i64 n, .slice va m cap] 27) = w1 := ⟨_, rfl⟩
  have z1 : w1.heap.size = B + 1 := by rw [← hw1, World.size_alloc, hB]
  have b1 : Below B w w1 := by rw [← hw1]; exact (Below.refl _ _).alloc (by omega) _
  have A1 : w1.heap[B]? = some (.cells #[.int .i64 n, .slice va m cap] 27 (0, 0)) := by rw [← hw1, ← hB]; exact heap_alloc_new _ _
  obtain ⟨c0, c1⟩ := cells2A w1 B _ _ _ A1
  have HO := Lib.hid (iOrders n xss hx w1 _ (hv.below b1 (by omega)) (ht.below b1 hpos))
  have B1 := Lib.hid b1
  have Z1 := Lib.hid z1
  have HB := Lib.hid hB
  clear hv A1 b1 z1 ht
  go_enter Tryd.func14, Tryd.ntmps14
  go_wp2_with fail
  try rw [hw1]
  refine HO.out.mono ?_
  rintro e w3 ⟨rfl, b3⟩
  have B3 : Hid (Below B w w3) := B1.out.trans (b3.mono (by have := Z1.out; omega))
  clear b3
  go_wp2
  go_ret
  exact ⟨rfl, by rw [HB.out]; exact B3.out⟩
end Go.Proofs.YtdhlnagkhkcoiaaDoor
