/- Superpose and Orthogonal: the exported functions. -/
import Derived.Test.YtkonddifmonkcaaOri
namespace Go.Proofs.Ytkonddifmonkcaa
open Go.RowKit Go.Shelf
set_option linter.unusedVariables false

/-- Two squares stored into variables of their own. -/
theorem two_sq (w : World) (n m g : Nat) (F G : Nat → Nat → Int) (hg : w.heap.size = g) : ∃ W3 W4 : World,
    (storeCells ⟨g, 0, none⟩ (iar 101 (sqC n F)).toList 0).run Try.prog ((w.alloc (.cells Try.zeroCells46 46)).alloc (.cells Try.zeroCells46 46)) = .ok () W3 ∧
    (storeCells ⟨g + 1, 0, none⟩ (iar 101 (sqC m G)).toList 0).run Try.prog W3 = .ok () W4 ∧
    SqAt W4 g n F ∧ SqAt W4 (g + 1) m G ∧ W4.heap.size = g + 2 ∧ Below g w W4 := by
  have q1 : (w.alloc (.cells Try.zeroCells46 46)).heap.size = g + 1 := by rw [World.size_alloc, hg]
  have b1 : Below g w (w.alloc (.cells Try.zeroCells46 46)) := (Below.refl _ _).alloc (by omega) _
  have A1 : SqAt (w.alloc (.cells Try.zeroCells46 46)) g 0 (fun _ _ => 0) := by unfold SqAt Ia; rw [← sqC_zeros, ← hg, heap_alloc_new, zeroSq]
  obtain ⟨w1, hw1⟩ : ∃ w1, w.alloc (.cells Try.zeroCells46 46) = w1 := ⟨_, rfl⟩
  rw [hw1] at q1 b1 A1 ⊢
  have q2 : (w1.alloc (.cells Try.zeroCells46 46)).heap.size = g + 2 := by rw [World.size_alloc, q1]
  have b2 : Below g w (w1.alloc (.cells Try.zeroCells46 46)) := b1.alloc (by omega) _
  have A2 : SqAt (w1.alloc (.cells Try.zeroCells46 46)) g 0 (fun _ _ => 0) := (heap_alloc_old _ _ (by omega)).trans A1
  have C2 : SqAt (w1.alloc (.cells Try.zeroCells46 46)) (g + 1) 0 (fun _ _ => 0) := by unfold SqAt Ia; rw [← sqC_zeros, ← q1, heap_alloc_new, zeroSq]
  obtain ⟨w2, hw2⟩ : ∃ w2, w1.alloc (.cells Try.zeroCells46 46) = w2 := ⟨_, rfl⟩
  rw [hw2] at q2 b2 A2 C2 ⊢
  have A3 : SqAt (w2.setRow g (iar 101 (sqC n F))) g n F := setRow_heap _ _ _ _ _ _ A2
  have C3 : SqAt (w2.setRow g (iar 101 (sqC n F))) (g + 1) 0 (fun _ _ => 0) := (setRow_other _ g (g + 1) _ (by omega)).trans C2
  refine ⟨w2.setRow g (iar 101 (sqC n F)), (w2.setRow g (iar 101 (sqC n F))).setRow (g + 1) (iar 101 (sqC m G)), Ia.stores A2, Ia.stores C3, (setRow_other _ (g + 1) g _ (by omega)).trans A3, setRow_heap _ _ _ _ _ _ C3, by rw [size_setRow, size_setRow]; exact q2, below_row (below_row b2 (Nat.le_refl _) _) (by omega) _⟩

set_option maxRecDepth 100000 in
set_option maxHeartbeats 4000000 in
theorem iSuperpose (xss yss : List (List Int)) (hx : SmallLL xss) (hy : SmallLL yss) (w : World) (v u : Value) (hv : RowsAt w v xss) (hu : RowsAt w u yss) :
    Calls Try.prog 22 #[v, u] w fun e w' => ∃ r, e = .returned (.tuple #[r, .int .i64 (Superpose_1 xss yss)]) ∧ RowsL w' w.heap.size w'.heap.size r (Superpose_0 xss yss) ∧ Below w.heap.size w w' := by
  have HA := Lib.hid (ilsq2 w v u xss yss hv hu)
  have VB := Lib.hid (fun k => Sup_bad (xss := xss) (yss := yss) k)
  have VF := Lib.hid (fun k => Sup_far (xss := xss) (yss := yss) k)
  have VO := Lib.hid (fun k => Sup_ok (xss := xss) (yss := yss) k)
  have SA := Lib.hid (fun k => of_sqB (xss := xss) k)
  have SB := Lib.hid (fun k => of_sqB (xss := yss) k)
  obtain ⟨z1, hz1⟩ : ∃ z, sqB xss = z := ⟨_, rfl⟩
  obtain ⟨z2, hz2⟩ : ∃ z, sqB yss = z := ⟨_, rfl⟩
  rw [hz1, hz2] at HA
  simp only [hz1, hz2] at VB VF VO SA SB
  clear hv hu hx hy hz1 hz2
  go_enter Try.func22, Try.ntmps22
  go_wp2_with fail
  refine HA.out.mono ?_
  rintro e w1 ⟨n, F, m, G, rfl, hA, hB, b1⟩
  have HAA := Lib.hid hA
  have HBB := Lib.hid hB
  obtain ⟨g, hg⟩ : ∃ g, w1.heap.size = g := ⟨_, rfl⟩
  have hg1 : (w1.alloc (.cells Try.zeroCells46 46)).heap.size = g + 1 := by rw [World.size_alloc, hg]
  obtain ⟨W3, W4, P1, P2, A4, C4, q4, b4⟩ := two_sq w1 n m g F G hg
  have s1 := b1.size
  have B4 := Lib.hid (b1.trans (b4.mono (by omega)))
  have X4 := Lib.hid A4
  have Y4 := Lib.hid C4
  have o1 := SqAt.order A4
  have o2 := SqAt.order C4
  have NL : Hid (RowsL W4 w.heap.size W4.heap.size (.slice none 0 0) []) := RowsL.nil _ _ _ (Nat.le_refl _)
  clear b1 hA hB A4 C4 b4 HA
  by_cases k : z1 = true ∧ z2 = true
  case neg =>
    have V := Lib.hid (VB.out k)
    have kb : (z1 && z2) = false := by cases z1 <;> cases z2 <;> simp_all
    rw [kb]
    clear VB VF VO SA SB k kb
    go_wp2
    go_ret2
    exact ⟨_, by rw [V.out.2]; rfl, by rw [V.out.1]; exact NL.out, B4.out⟩
  obtain ⟨rfl, rfl⟩ := k
  obtain ⟨hn1, hF⟩ := HAA.out rfl
  obtain ⟨hm1, hG⟩ := HBB.out rfl
  have S1 := SA.out rfl
  have S2 := SB.out rfl
  have l1 := S1.lo
  have l2 := S1.hi
  have l4 := S2.hi
  have VF2 := Lib.hid (VF.out ⟨rfl, rfl⟩)
  have VO2 := Lib.hid (VO.out ⟨rfl, rfl⟩)
  have jF : InSq n F := fun a b ha hb => by rw [hF, sqF_in _ (by omega) (by omega), hn1]; exact S1.cell (by omega) (by omega)
  have jG : InSq m G := fun a b ha hb => by rw [hG, sqF_in _ (by omega) (by omega), hm1]; exact S2.cell (by omega) (by omega)
  rw [← hn1] at VF2 VO2 l1 l2
  rw [← hm1] at VF2 VO2 l4
  rw [show (true && true) = true from rfl]
  by_cases k : n = m
  case neg =>
    have V := Lib.hid (VF2.out k)
    have e1 : ((n : Int) != (m : Int)) = true := by simp; omega
    have e1' : (n != m) = true := by simp [k]
    clear VB VF VO SA SB S1 S2 jF jG k hn1 hm1 hF hG VF2 VO2 HAA HBB
    go_wp2
    go_ret2
    exact ⟨_, by rw [V.out.2]; rfl, by rw [V.out.1]; exact NL.out, B4.out⟩
  subst k
  have V := Lib.hid (VO2.out rfl)
  have e1 : ((n : Int) != (n : Int)) = false := by simp
  have e1' : (n != n) = false := by simp
  have eP : gridL n n (overF n F G) = gridL n n (overF n (cellF xss) (cellF yss)) := gridL_congr fun a b ha hb => by
    unfold overF
    rw [hF, hG, ← hn1, ← hm1, sqF_in _ ha hb, sqF_in _ ha hb]
  have HS := Lib.hid (isup n l1 l2 W4 F G jF jG)
  rw [eP] at HS
  clear VB VF VO SA SB S1 S2 jF jG hn1 hm1 hF hG VF2 VO2 HAA HBB eP
  go_wp2_with (first
    | (refine wpList_load_row rfl 46 (.tmp 6) rfl _ rfl _ _ _ _ X4.out Try.underlying46 rfl (by rw [iar_size]; exact Try.infoSq) ?_)
    | (refine wpList_load_row rfl 46 (.tmp 7) rfl _ rfl _ _ _ _ Y4.out Try.underlying46 rfl (by rw [iar_size]; exact Try.infoSq) ?_))
  refine HS.out.mono ?_
  rintro e w5 ⟨r, rfl, r5, b5⟩
  have R5 := Lib.hid (r5.mono (B' := w.heap.size) B4.out.size (Nat.le_refl _) (Nat.le_refl _))
  have B5 := Lib.hid (t_chain B4.out b5)
  clear r5 b5
  go_wp2
  go_ret2
  exact ⟨_, by rw [V.out.2]; rfl, by rw [V.out.1]; exact R5.out, B5.out⟩

set_option maxRecDepth 100000 in
set_option maxHeartbeats 4000000 in
theorem iOrthogonal (xss yss : List (List Int)) (hx : SmallLL xss) (hy : SmallLL yss) (w : World) (v u : Value) (hv : RowsAt w v xss) (hu : RowsAt w u yss) :
    Calls Try.prog 14 #[v, u] w fun e w' => e = .returned (.bool (Orthogonal_0 xss yss)) ∧ Below w.heap.size w w' := by
  have HA := Lib.hid (ilsq2 w v u xss yss hv hu)
  have VB := Lib.hid (fun k => Orth_no (xss := xss) (yss := yss) k)
  have VO := Lib.hid (fun k => Orth_ok (xss := xss) (yss := yss) k)
  have SA := Lib.hid (fun k => of_sqB (xss := xss) k)
  have SB := Lib.hid (fun k => of_sqB (xss := yss) k)
  obtain ⟨z1, hz1⟩ : ∃ z, sqB xss = z := ⟨_, rfl⟩
  obtain ⟨z2, hz2⟩ : ∃ z, sqB yss = z := ⟨_, rfl⟩
  rw [hz1, hz2] at HA
  simp only [hz1, hz2] at VB VO SA SB
  clear hv hu hx hy hz1 hz2
  go_enter Try.func14, Try.ntmps14
  go_wp2_with fail
  refine HA.out.mono ?_
  rintro e w1 ⟨n, F, m, G, rfl, hA, hB, b1⟩
  have HAA := Lib.hid hA
  have HBB := Lib.hid hB
  obtain ⟨g, hg⟩ : ∃ g, w1.heap.size = g := ⟨_, rfl⟩
  have hg1 : (w1.alloc (.cells Try.zeroCells46 46)).heap.size = g + 1 := by rw [World.size_alloc, hg]
  obtain ⟨W3, W4, P1, P2, A4, C4, q4, b4⟩ := two_sq w1 n m g F G hg
  have s1 := b1.size
  have B4 := Lib.hid (b1.trans (b4.mono (by omega)))
  have X4 := Lib.hid A4
  have Y4 := Lib.hid C4
  clear b1 hA hB A4 C4 b4 HA
  by_cases k : z1 = true ∧ z2 = true
  case neg =>
    have V := Lib.hid (VB.out (fun h => k h.1))
    have kb : (z1 && z2) = false := by cases z1 <;> cases z2 <;> simp_all
    rw [kb]
    clear VB VO SA SB k kb
    go_wp2
    go_ret
    exact ⟨by rw [V.out]; rfl, B4.out⟩
  obtain ⟨rfl, rfl⟩ := k
  obtain ⟨hn1, hF⟩ := HAA.out rfl
  obtain ⟨hm1, hG⟩ := HBB.out rfl
  have S1 := SA.out rfl
  have S2 := SB.out rfl
  have l1 := S1.lo
  have l2 := S1.hi
  have l4 := S2.hi
  have jF : InSq n F := fun a b ha hb => by rw [hF, sqF_in _ (by omega) (by omega), hn1]; exact S1.cell (by omega) (by omega)
  have jG : InSq m G := fun a b ha hb => by rw [hG, sqF_in _ (by omega) (by omega), hm1]; exact S2.cell (by omega) (by omega)
  have V : Hid (ortB n m F G = Orthogonal_0 xss yss) := by
    unfold Hid ortB
    by_cases k : n = m
    · rw [if_pos k, VO.out ⟨rfl, rfl⟩ (by omega), ← hn1]
      refine distB_congr fun q hq => lineG_congr (fun a b ha hb => ?_) hq
      unfold overF
      rw [hF, hG, ← hn1, ← hm1, sqF_in _ ha hb, sqF_in _ (by omega) (by omega)]
    · rw [if_neg k, VB.out (fun h => k (by have := h.2; omega))]
  rw [← hn1] at l1 l2
  rw [← hm1] at l4
  have HS := Lib.hid (iortho n m l1 l2 l4 W4 F G jF jG)
  rw [V.out] at HS
  rw [show (true && true) = true from rfl]
  obtain ⟨z, hz⟩ : ∃ z, Orthogonal_0 xss yss = z := ⟨_, rfl⟩
  rw [hz] at HS
  have HZ := Lib.hid hz
  clear VB VO SA SB S1 S2 jF jG hn1 hm1 hF hG HAA HBB hz V
  go_wp2
  refine wp_load_row 46 (.tmp 5) rfl _ rfl _ _ _ _ X4.out Try.underlying46 rfl (by rw [iar_size]; exact Try.infoSq) ?_
  go_wp2
  refine wp_load_row 46 (.tmp 6) rfl _ rfl _ _ _ _ Y4.out Try.underlying46 rfl (by rw [iar_size]; exact Try.infoSq) ?_
  go_wp2_with fail
  refine HS.out.mono ?_
  rintro e w5 ⟨rfl, b5⟩
  have B5 := Lib.hid (t_chain B4.out b5)
  clear b5
  go_wp2
  go_ret
  exact ⟨by rw [HZ.out]; rfl, B5.out⟩
end Go.Proofs.Ytkonddifmonkcaa
