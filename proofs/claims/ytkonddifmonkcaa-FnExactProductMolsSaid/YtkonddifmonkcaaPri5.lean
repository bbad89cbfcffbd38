/- ProductSquare: the program's exported function, where both squares come from one function. -/
import Derived.Test.YtkonddifmonkcaaOvx
namespace Go.Proofs.Ytkonddifmonkcaa
open Go.RowKit Go.Shelf
set_option linter.unusedVariables false

set_option maxRecDepth 100000 in
set_option maxHeartbeats 8000000 in
theorem iProductSquare (xss yss : List (List Int)) (hx : SmallLL xss) (hy : SmallLL yss) (w : World) (v u : Value) (hv : RowsAt w v xss) (hu : RowsAt w u yss) :
    Calls Try.prog 36 #[v, u] w fun e w' => ∃ r, e = .returned (.tuple #[r, .int .i64 (ProductSquare_1 xss yss)]) ∧ RowsL w' w.heap.size w'.heap.size r (ProductSquare_0 xss yss) ∧ Below w.heap.size w w' := by
  have hmf : ∀ (fn : Fn) (first cap : Array Value) (w : World), (Instr.makeFunc fn first cap).run Try.prog w = .ok (.func fn first cap) w := fun _ _ _ _ => rfl
  have HA := Lib.hid (ilsq2 w v u xss yss hv hu)
  have VB := Lib.hid (fun k => Prod_bad (xss := xss) (yss := yss) k)
  have VF := Lib.hid (fun k => Prod_far (xss := xss) (yss := yss) k)
  have VO := Lib.hid (fun k => Prod_ok (xss := xss) (yss := yss) k)
  have SA := Lib.hid (fun k => of_sqB (xss := xss) k)
  have SB := Lib.hid (fun k => of_sqB (xss := yss) k)
  obtain ⟨z1, hz1⟩ : ∃ z, sqB xss = z := ⟨_, rfl⟩
  obtain ⟨z2, hz2⟩ : ∃ z, sqB yss = z := ⟨_, rfl⟩
  rw [hz1, hz2] at HA
  simp only [hz1, hz2] at VB VF VO SA SB
  clear hv hu hx hy hz1 hz2
  go_enter Try.func36, Try.ntmps36
  go_wp2_with fail
  refine HA.out.mono ?_
  rintro e w1 ⟨n, F, m, G, rfl, hA, hB, b1⟩
  have HAA := Lib.hid hA
  have HBB := Lib.hid hB
  obtain ⟨g, hg⟩ : ∃ g, w1.heap.size = g := ⟨_, rfl⟩
  have hg1' : (w1.alloc (.cells Try.zeroCells46 46)).heap.size = g + 1 := by rw [World.size_alloc, hg]
  obtain ⟨W3, w4, P1, P2, A4, C4, q4, b4⟩ := two_sq w1 n m g F G hg
  have s1 := b1.size
  have B4 := Lib.hid (b1.trans (b4.mono (by omega)))
  have Z4 := Lib.hid A4
  have Y4 := Lib.hid C4
  have or1 := SqAt.order A4
  have or2 := SqAt.order C4
  have NL : Hid (RowsL w4 w.heap.size w4.heap.size (.slice none 0 0) []) := RowsL.nil _ _ _ (Nat.le_refl _)
  clear b1 hA hB A4 C4 b4 HA
  by_cases kz : z1 = true ∧ z2 = true
  case neg =>
    have V := Lib.hid (VB.out kz)
    have kb : (z1 && z2) = false := by cases z1 <;> cases z2 <;> simp_all
    rw [kb]
    clear VB VF VO SA SB kz kb
    go_wp2
    go_ret2
    exact ⟨_, by rw [V.out.2]; rfl, by rw [V.out.1]; exact NL.out, B4.out⟩
  obtain ⟨rfl, rfl⟩ := kz
  rw [show (true && true) = true from rfl]
  obtain ⟨hn1, hF⟩ := HAA.out (by trivial)
  obtain ⟨hm1, hG⟩ := HBB.out (by trivial)
  have S1 := SA.out (by trivial)
  have S2 := SB.out (by trivial)
  have l1 := S1.lo
  have l2 := S1.hi
  have l3 := S2.lo
  have l4 := S2.hi
  have VF2 := Lib.hid (VF.out (by simp))
  have VO2 := Lib.hid (VO.out (by simp))
  have jF : InSq n F := fun a b ha hb => by rw [hF, sqF_in _ (by omega) (by omega), hn1]; exact S1.cell (by omega) (by omega)
  have jG : InSq m G := fun a b ha hb => by rw [hG, sqF_in _ (by omega) (by omega), hm1]; exact S2.cell (by omega) (by omega)
  have eP : gridL (n * m) (n * m) (prodF m F G) = gridL (n * m) (n * m) (prodF yss.length (cellF xss) (cellF yss)) := gridL_congr fun a b ha hb => by
    have a1 := div_lt' ha
    have b1 := div_lt' hb
    have a2 : a % m < m := Nat.mod_lt _ (by omega)
    have b2 : b % m < m := Nat.mod_lt _ (by omega)
    unfold prodF
    rw [hF, hG, ← hn1, ← hm1, sqF_in _ a1 b1, sqF_in _ a2 b2]
  rw [← hn1, ← hm1] at VF2 VO2
  rw [← hm1] at eP
  have HP := Lib.hid eP
  have JF := Lib.hid jF
  have JG := Lib.hid jG
  rw [← hn1] at l1 l2
  rw [← hm1] at l3 l4
  have nm0 : (0 : Int) ≤ (n : Int) * (m : Int) := Int.mul_nonneg (by omega) (by omega)
  have nm1 : n * m ≤ 10 * 10 := Nat.mul_le_mul l2 l4
  have ec : (n : Int) * (m : Int) = ((n * m : Nat) : Int) := (Int.natCast_mul n m).symm
  obtain ⟨o, ho⟩ : ∃ o, n * m = o := ⟨_, rfl⟩
  rw [ho] at VF2 VO2 HP nm1 ec
  have wo := IntWalk.i64_in (o : Int) (by omega)
  -- the block of m
  have q5 : (w4.alloc (.cells #[.int .i64 m] 2)).heap.size = g + 3 := by rw [World.size_alloc, q4]
  have b5 : Below w.heap.size w (w4.alloc (.cells #[.int .i64 m] 2)) := B4.out.alloc B4.out.size _
  have c5 : (w4.alloc (.cells #[.int .i64 m] 2)).heap[g + 2]? = some (.cells #[.int .i64 m] 2 (0, 0)) := by rw [← q4]; exact heap_alloc_new _ _
  have Y5 : SqAt (w4.alloc (.cells #[.int .i64 m] 2)) (g + 1) m G := (heap_alloc_old _ _ (by omega)).trans Y4.out
  have Z5 : SqAt (w4.alloc (.cells #[.int .i64 m] 2)) g n F := (heap_alloc_old _ _ (by omega)).trans Z4.out
  obtain ⟨w5, hw5⟩ : ∃ w5, w4.alloc (.cells #[.int .i64 m] 2) = w5 := ⟨_, rfl⟩
  rw [hw5] at q5 b5 c5 Y5 Z5
  have cm : w5.cell? ⟨g + 2, 0, none⟩ = some (.int .i64 m) := by rw [cell_of_row w5 (g + 2) 0 _ _ _ c5]; rfl
  have on := SqAt.order Z5
  have om := SqAt.order Y5
  have B5 := Lib.hid b5
  have NL5 : Hid (RowsL w5 w.heap.size w5.heap.size (.slice none 0 0) []) := RowsL.nil _ _ _ (Nat.le_refl _)
  by_cases k : o ≤ 10
  case neg =>
    have V := Lib.hid (VF2.out k)
    have t2 : decide ((10 : Int) < (o : Int)) = true := decide_eq_true (by omega)
    have t2' : decide (10 < o) = true := decide_eq_true (by omega)
    clear VB VF VO SA SB VF2 VO2 hF hG hn1 hm1 S1 S2 jF jG eP HP b5 Y5 Z5 k ho HAA HBB
    go_wp2
    go_ret2
    exact ⟨_, by rw [V.out.2]; rfl, by rw [V.out.1]; exact NL5.out, B5.out⟩
  have V := Lib.hid (VO2.out k)
  have t2 : decide ((10 : Int) < (o : Int)) = false := decide_eq_false (by omega)
  have t2' : decide (10 < o) = false := decide_eq_false (by omega)
  have HFl := Lib.hid (ifilld2 o k w5 (.func (.func 59) #[] #[.pointer (some ⟨g + 2, 0, none⟩), .pointer (some ⟨g, 0, none⟩), .pointer (some ⟨g + 1, 0, none⟩)]) (prodF m F G)
    ⟨_, _, _, rfl, enters_of Try.func59 (by kernel_rfl) rfl, fun W x y hW hx hy => iprodc W (g + 2) g (g + 1) n m F G l3 l2 l4 ((hW.cell (p := ⟨g + 2, 0, none⟩) (by simp only; omega)).trans cm) (SqAt.below Z5 hW (by omega)) (SqAt.below Y5 hW (by omega)) JF.out JG.out x y (by rw [ho]; exact hx) (by rw [ho]; exact hy)⟩)
  clear VB VF VO SA SB VF2 VO2 hF hG hn1 hm1 S1 S2 jF jG eP b5 Y5 Z5 ho HAA HBB
  go_wp2_with fail
  refine HFl.out.mono ?_
  rintro e w6 ⟨rfl, b6⟩
  obtain ⟨R, hR⟩ : ∃ R, sqF o (prodF m F G) = R := ⟨_, rfl⟩
  rw [hR]
  have HRR := Lib.hid hR
  have s6 := b6.size
  have B6 : Below w.heap.size w w6 := B5.out.trans (b6.mono B5.out.size)
  have st6 := stores_newSq w6 (sqC o R)
  have b7 : Below w.heap.size w (w6.alloc (.cells (iar 101 (sqC o R)) 46)) := B6.alloc B6.size _
  have A7 : SqAt (w6.alloc (.cells (iar 101 (sqC o R)) 46)) w6.heap.size o R := heap_alloc_new _ _
  obtain ⟨w7, hw7⟩ : ∃ w7, w6.alloc (.cells (iar 101 (sqC o R)) 46) = w7 := ⟨_, rfl⟩
  obtain ⟨g3, hg3⟩ : ∃ g, w6.heap.size = g := ⟨_, rfl⟩
  rw [hw7] at st6 b7 A7
  rw [hg3] at st6 A7
  have HW := Lib.hid (irows2 o k w7 R)
  have B7 := Lib.hid b7
  have X7 := Lib.hid A7
  clear b6 B6 b7 A7 hR HFl
  go_wp2_with (refine wpList_load_row rfl 46 (.tmp 11) rfl _ rfl _ _ _ _ X7.out Try.underlying46 rfl (by rw [iar_size]; exact Try.infoSq) ?_)
  refine HW.out.mono ?_
  rintro e w8 ⟨r, rfl, r8, b8⟩
  have R8 := Lib.hid (r8.mono (B' := w.heap.size) B7.out.size (Nat.le_refl _) (Nat.le_refl _))
  have B8 := Lib.hid (t_chain B7.out b8)
  rw [← HRR.out, gridL_sqF, HP.out] at R8
  clear r8 b8
  go_wp2
  go_ret2
  exact ⟨_, by rw [V.out.2]; rfl, by rw [V.out.1]; exact R8.out, B8.out⟩
end Go.Proofs.Ytkonddifmonkcaa
