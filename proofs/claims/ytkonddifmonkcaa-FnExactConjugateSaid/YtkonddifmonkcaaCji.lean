/- Conjugate: the program. -/
import Derived.Test.YtkonddifmonkcaaCjc
import Derived.Test.YtkonddifmonkcaaIun
import Derived.Deep.RegionHeld2
import Derived.Laws.EntriesVeiled
namespace Go.Proofs.Ytkonddifmonkcaa
open Go.RowKit Go.Shelf
set_option linter.unusedVariables false
set_option linter.unusedSimpArgs false

theorem Unr3_out {k : Int} (h : ¬ (0 ≤ k ∧ k ≤ 5)) : UnrankPermutation_0 3 k = [] ∧ UnrankPermutation_1 3 k = 2 := by
  have e : ¬ (0 ≤ (3 : Int) ∧ (3 : Int) ≤ 12 ∧ 0 ≤ k ∧ k < (fct (3 : Int).toNat : Nat)) := fun q => by
    have : fct (3 : Int).toNat = 6 := rfl
    rw [this] at q
    omega
  unfold UnrankPermutation_0 UnrankPermutation_1
  rw [if_neg e, if_neg e]; exact ⟨rfl, rfl⟩
theorem Unr3_ok {k : Nat} (h : k ≤ 5) : UnrankPermutation_0 3 (k : Int) = unrL 3 k ∧ UnrankPermutation_1 3 (k : Int) = 0 := Unr_ok (n := 3) (by omega) (show k < 6 by omega)

/-- Three new variables that get their functions one after the other. -/
theorem three_vars (W : World) (T : TypeId) (b0 b1 b2 : Nat) (n01 : b0 ≠ b1) (n02 : b0 ≠ b2) (n12 : b1 ≠ b2) (h0 : W.heap[b0]? = some (.cells #[.nilFunc] T (0, 0))) (h1 : W.heap[b1]? = some (.cells #[.nilFunc] T (0, 0))) (h2 : W.heap[b2]? = some (.cells #[.nilFunc] T (0, 0))) (F0 F1 F2 : Value) :
    (W.cell? ⟨b0, 0, none⟩ = some .nilFunc ∧ W.frozen? ⟨b0, 0, none⟩ = false) ∧
    ((W.setCell ⟨b0, 0, none⟩ F0).cell? ⟨b1, 0, none⟩ = some .nilFunc ∧ (W.setCell ⟨b0, 0, none⟩ F0).frozen? ⟨b1, 0, none⟩ = false) ∧
    (((W.setCell ⟨b0, 0, none⟩ F0).setCell ⟨b1, 0, none⟩ F1).cell? ⟨b2, 0, none⟩ = some .nilFunc ∧ ((W.setCell ⟨b0, 0, none⟩ F0).setCell ⟨b1, 0, none⟩ F1).frozen? ⟨b2, 0, none⟩ = false) ∧
    (((W.setCell ⟨b0, 0, none⟩ F0).setCell ⟨b1, 0, none⟩ F1).setCell ⟨b2, 0, none⟩ F2).cell? ⟨b0, 0, none⟩ = some F0 ∧
    (((W.setCell ⟨b0, 0, none⟩ F0).setCell ⟨b1, 0, none⟩ F1).setCell ⟨b2, 0, none⟩ F2).cell? ⟨b1, 0, none⟩ = some F1 ∧
    (((W.setCell ⟨b0, 0, none⟩ F0).setCell ⟨b1, 0, none⟩ F1).setCell ⟨b2, 0, none⟩ F2).cell? ⟨b2, 0, none⟩ = some F2 := by
  have far : ∀ (V : World) (p : Nat) (u : Value) (q : Nat) (x : Obj), q ≠ p → V.heap[q]? = some x → (V.setCell ⟨p, 0, none⟩ u).heap[q]? = some x := fun V p u q x hq h => (Below.heap_setCell V ⟨p, 0, none⟩ u q hq).trans h
  have put : ∀ (V : World) (p : Nat) (u : Value), V.heap[p]? = some (.cells #[.nilFunc] T (0, 0)) → (V.setCell ⟨p, 0, none⟩ u).heap[p]? = some (.cells #[u] T (0, 0)) := fun V p u h => by
    rw [heap_setCell_same V p 0 _ _ _ h]; rfl
  have c : ∀ (V : World) (p : Nat) (u : Value), V.heap[p]? = some (.cells #[u] T (0, 0)) → V.cell? ⟨p, 0, none⟩ = some u ∧ V.frozen? ⟨p, 0, none⟩ = false := fun V p u h =>
    ⟨by rw [cell_of_row V p 0 _ _ _ h]; rfl, frozen_of_row V p 0 _ _ h⟩
  have a0 := put W b0 F0 h0
  have a1 := far W b0 F0 b1 _ (Ne.symm n01) h1
  have a2 := far W b0 F0 b2 _ (Ne.symm n02) h2
  have d0 := far _ b1 F1 b0 _ n01 a0
  have d1 := put _ b1 F1 a1
  have d2 := far _ b1 F1 b2 _ (Ne.symm n12) a2
  have e0 := far _ b2 F2 b0 _ n02 d0
  have e1 := far _ b2 F2 b1 _ n12 d1
  have e2 := put _ b2 F2 d2
  exact ⟨c _ _ _ h0, c _ _ _ a1, c _ _ _ d2, (c _ _ _ e0).1, (c _ _ _ e1).1, (c _ _ _ e2).1⟩

set_option maxRecDepth 100000 in
set_option maxHeartbeats 40000000 in
theorem iConjugate (xss : List (List Int)) (k : Int) (hx : SmallLL xss) (hk : I64 k) (w : World) (v : Value) (hv : RowsAt w v xss) :
    Calls Try.prog 38 #[v, .int .i64 k] w fun e w' => ∃ r, e = .returned (.tuple #[r, .int .i64 (Conjugate_1 xss k)]) ∧ RowsL w' w.heap.size w'.heap.size r (Conjugate_0 xss k) ∧ Below w.heap.size w w' := by
  have HA := Lib.hid (ilsq w v xss hv)
  have VB := Lib.hid (fun h => Con_bad (xss := xss) (k := k) h)
  have VF := Lib.hid (fun h c => Con_out (xss := xss) (k := k) h c)
  have VO := Lib.hid (fun j h c => Con_ok (xss := xss) (k := j) h c)
  have SA := Lib.hid (fun h => of_sqB (xss := xss) h)
  obtain ⟨z, hz⟩ : ∃ z, sqB xss = z := ⟨_, rfl⟩
  rw [hz] at HA
  simp only [hz] at VB VF VO SA
  clear hv hx hz
  go_enter Try.func38, Try.ntmps38
  go_wp2_with fail
  refine HA.out.mono ?_
  rintro e w1 ⟨n, F, rfl, hA, b1⟩
  have HAA := Lib.hid hA
  have st1 := stores_newSq w1 (sqC n F)
  have s1 := b1.size
  have b2 : Below w.heap.size w (w1.alloc (.cells (iar 101 (sqC n F)) 46)) := b1.alloc b1.size _
  have A2 : SqAt (w1.alloc (.cells (iar 101 (sqC n F)) 46)) w1.heap.size n F := heap_alloc_new _ _
  have q2 : (w1.alloc (.cells (iar 101 (sqC n F)) 46)).heap.size = w1.heap.size + 1 := World.size_alloc _ _
  obtain ⟨w2, hw2⟩ : ∃ w2, w1.alloc (.cells (iar 101 (sqC n F)) 46) = w2 := ⟨_, rfl⟩
  obtain ⟨g, hg⟩ : ∃ g, w1.heap.size = g := ⟨_, rfl⟩
  rw [hw2] at st1 b2 A2 q2
  rw [hg] at st1 A2 q2 s1
  have B2 := Lib.hid b2
  have X2 := Lib.hid A2
  clear hA b1 b2 A2 HA
  cases z with
  | false =>
    have V := Lib.hid (VB.out rfl)
    have NL : Hid (RowsL w2 w.heap.size w2.heap.size (.slice none 0 0) []) := RowsL.nil _ _ _ (Nat.le_refl _)
    clear VB VF VO SA
    go_wp2
    go_ret2
    exact ⟨_, by rw [V.out.2]; rfl, by rw [V.out.1]; exact NL.out, B2.out⟩
  | true =>
    obtain ⟨hn1, hF⟩ := HAA.out rfl
    have S1 := SA.out rfl
    have l1 := S1.lo
    have l2 := S1.hi
    have jF : InSq n F := fun a b ha hb => by rw [hF, sqF_in _ (by omega) (by omega), hn1]; exact S1.cell (by omega) (by omega)
    have FC : Hid (∀ x y, x < n → y < n → F x y = cellF xss x y) := fun x y hx hy => by rw [hF]; exact sqF_in _ (by omega) (by omega)
    have JF := Lib.hid jF
    have HN := Lib.hid hn1
    rw [← hn1] at l1 l2
    clear S1 SA HAA jF hF hn1 VB
    -- the three methods
    have b3 : Below w.heap.size w (w2.alloc (.cells #[.nilFunc, .nilFunc, .nilFunc] 73)) := B2.out.alloc B2.out.size _
    have X3 : SqAt (w2.alloc (.cells #[.nilFunc, .nilFunc, .nilFunc] 73)) g n F := (heap_alloc_old _ _ (by omega)).trans X2.out
    have P3 : (w2.alloc (.cells #[.nilFunc, .nilFunc, .nilFunc] 73)).heap[g + 1]? = some (.cells #[.nilFunc, .nilFunc, .nilFunc] 73 (0, 0)) := by rw [← q2]; exact heap_alloc_new _ _
    have q3 : (w2.alloc (.cells #[.nilFunc, .nilFunc, .nilFunc] 73)).heap.size = g + 2 := by rw [World.size_alloc, q2]
    obtain ⟨w3, hw3⟩ : ∃ w3, w2.alloc (.cells #[.nilFunc, .nilFunc, .nilFunc] 73) = w3 := ⟨_, rfl⟩
    rw [hw3] at b3 X3 P3 q3
    have HP3 := Lib.hid P3
    have m1 : w3.cell? ⟨g + 1, 0, none⟩ = some .nilFunc := by rw [cell_of_row w3 (g + 1) 0 _ _ _ P3]; rfl
    have m2 := frozen_of_row w3 (g + 1) 0 _ _ P3
    have q31 : (w3.setCell ⟨g + 1, 0, none⟩ (.func (.func 63) #[] #[])).heap[g + 1]? = some (.cells #[.func (.func 63) #[] #[], .nilFunc, .nilFunc] 73 (0, 0)) := by rw [heap_setCell_same w3 (g + 1) 0 _ _ _ P3]; rfl
    have b31 := b3.setCell (p := ⟨g + 1, 0, none⟩) (by simp only; omega) (.func (.func 63) #[] #[])
    have x31 : SqAt (w3.setCell ⟨g + 1, 0, none⟩ (.func (.func 63) #[] #[])) g n F := (Below.heap_setCell w3 ⟨g + 1, 0, none⟩ _ g (by simp only; omega)).trans X3
    have s31 : (w3.setCell ⟨g + 1, 0, none⟩ (.func (.func 63) #[] #[])).heap.size = g + 2 := by simpa [World.setCell] using q3
    obtain ⟨v1, hv1⟩ : ∃ v1, w3.setCell ⟨g + 1, 0, none⟩ (.func (.func 63) #[] #[]) = v1 := ⟨_, rfl⟩
    rw [hv1] at q31 b31 x31 s31
    have m3 : v1.cell? ⟨g + 1, 1, none⟩ = some .nilFunc := by rw [cell_of_row v1 (g + 1) 1 _ _ _ q31]; rfl
    have m4 := frozen_of_row v1 (g + 1) 1 _ _ q31
    have q32 : (v1.setCell ⟨g + 1, 1, none⟩ (.func (.func 64) #[] #[])).heap[g + 1]? = some (.cells #[.func (.func 63) #[] #[], .func (.func 64) #[] #[], .nilFunc] 73 (0, 0)) := by rw [heap_setCell_same v1 (g + 1) 1 _ _ _ q31]; rfl
    have b32 := b31.setCell (p := ⟨g + 1, 1, none⟩) (by simp only; omega) (.func (.func 64) #[] #[])
    have x32 : SqAt (v1.setCell ⟨g + 1, 1, none⟩ (.func (.func 64) #[] #[])) g n F := (Below.heap_setCell v1 ⟨g + 1, 1, none⟩ _ g (by simp only; omega)).trans x31
    have s32 : (v1.setCell ⟨g + 1, 1, none⟩ (.func (.func 64) #[] #[])).heap.size = g + 2 := by simpa [World.setCell] using s31
    obtain ⟨v2, hv2⟩ : ∃ v2, v1.setCell ⟨g + 1, 1, none⟩ (.func (.func 64) #[] #[]) = v2 := ⟨_, rfl⟩
    rw [hv2] at q32 b32 x32 s32
    have m5 : v2.cell? ⟨g + 1, 2, none⟩ = some .nilFunc := by rw [cell_of_row v2 (g + 1) 2 _ _ _ q32]; rfl
    have m6 := frozen_of_row v2 (g + 1) 2 _ _ q32
    have P4 : (v2.setCell ⟨g + 1, 2, none⟩ (.func (.func 65) #[] #[])).heap[g + 1]? = some (.cells #[.func (.func 63) #[] #[], .func (.func 64) #[] #[], .func (.func 65) #[] #[]] 73 (0, 0)) := by rw [heap_setCell_same v2 (g + 1) 2 _ _ _ q32]; rfl
    have b4 := b32.setCell (p := ⟨g + 1, 2, none⟩) (by simp only; omega) (.func (.func 65) #[] #[])
    have X4 : SqAt (v2.setCell ⟨g + 1, 2, none⟩ (.func (.func 65) #[] #[])) g n F := (Below.heap_setCell v2 ⟨g + 1, 2, none⟩ _ g (by simp only; omega)).trans x32
    have q4 : (v2.setCell ⟨g + 1, 2, none⟩ (.func (.func 65) #[] #[])).heap.size = g + 2 := by simpa [World.setCell] using s32
    obtain ⟨w4, hw4⟩ : ∃ w4, v2.setCell ⟨g + 1, 2, none⟩ (.func (.func 65) #[] #[]) = w4 := ⟨_, rfl⟩
    rw [hw4] at b4 X4 P4 q4
    have HU := Lib.hid (iUnrankPermutation 3 k (by unfold I64; omega) hk w4)
    have B4 := Lib.hid b4
    have HX4 := Lib.hid X4
    have HP4 := Lib.hid P4
    have hq4 := Lib.hid q4
    clear b3 X3 P3 b4 X4 P4 q4 q31 b31 x31 s31 q32 b32 x32 s32
    by_cases c : 0 ≤ k ∧ k ≤ 5
    case neg =>
      have V := Lib.hid (VF.out rfl c)
      rw [(Unr3_out c).2] at HU
      clear VF VO c
      go_wp2_with fail
      refine HU.out.mono ?_
      rintro e w5 ⟨u, rfl, -, b5⟩
      have B5 := Lib.hid (t_chain B4.out b5)
      have NL : Hid (RowsL w5 w.heap.size w5.heap.size (.slice none 0 0) []) := RowsL.nil _ _ _ (Nat.le_refl _)
      clear b5
      go_wp2
      go_ret2
      exact ⟨_, by rw [V.out.2]; rfl, by rw [V.out.1]; exact NL.out, B5.out⟩
    obtain ⟨m, rfl⟩ : ∃ m : Nat, k = m := ⟨k.toNat, by omega⟩
    have V := Lib.hid (VO.out m rfl (by omega))
    rw [(Unr3_ok (k := m) (by omega)).1, (Unr3_ok (k := m) (by omega)).2] at HU
    have P0 := unr_lt (r := m) (show 3 ≤ 12 by omega) (show 0 < 3 by omega)
    have P1 := unr_lt (r := m) (show 3 ≤ 12 by omega) (show 1 < 3 by omega)
    have P2 := unr_lt (r := m) (show 3 ≤ 12 by omega) (show 2 < 3 by omega)
    have PLL := Lib.hid (unrL_length 3 m)
    have pl0 : (unrL 3 m).getD 0 0 = ((unr 3 m 0 : Nat) : Int) := unrL_getD (by omega)
    have pl1 : (unrL 3 m).getD 1 0 = ((unr 3 m 1 : Nat) : Int) := unrL_getD (by omega)
    have pl2 : (unrL 3 m).getD 2 0 = ((unr 3 m 2 : Nat) : Int) := unrL_getD (by omega)
    have VL : Hid (conL xss m = gridL n n (movSt n (conMv F (unr 3 m 0) (unr 3 m 1) (unr 3 m 2)) n)) := by
      unfold Hid conL
      rw [← HN.out]
      rw [movSt_congr (mv := conMv (cellF xss) (unr 3 m 0) (unr 3 m 1) (unr 3 m 2)) (mv' := conMv F (unr 3 m 0) (unr 3 m 1) (unr 3 m 2)) n (fun a b ha hb => by unfold conMv; rw [FC.out a b ha hb])]
    obtain ⟨U, hU⟩ : ∃ U, unrL 3 m = U := ⟨_, rfl⟩
    obtain ⟨p0, hp0⟩ : ∃ p, unr 3 m 0 = p := ⟨_, rfl⟩
    obtain ⟨p1, hp1⟩ : ∃ p, unr 3 m 1 = p := ⟨_, rfl⟩
    obtain ⟨p2, hp2⟩ : ∃ p, unr 3 m 2 = p := ⟨_, rfl⟩
    rw [hp0] at P0 pl0
    rw [hp1] at P1 pl1
    rw [hp2] at P2 pl2
    rw [hp0, hp1, hp2] at VL
    rw [hU] at HU PLL pl0 pl1 pl2
    have PZ := Lib.hid pl0
    have PO := Lib.hid pl1
    have PT := Lib.hid pl2
    have MVE : Hid (∀ x y, conMv F p0 p1 p2 x y = ((cmp3 p0 x y (F x y)).toNat, (cmp3 p1 x y (F x y)).toNat, cmp3 p2 x y (F x y))) := fun x y => rfl
    have MVL : Hid (∀ x y, x < n → y < n → (conMv F p0 p1 p2 x y).1 < n ∧ (conMv F p0 p1 p2 x y).2.1 < n) := fun x y hx hy => conMv_lt JF.out hx hy
    have HM : Hid (∀ (W : World) (q0 q1 q2 : Nat), W.cell? ⟨q0, 0, none⟩ = some (.func (.func (fid p0)) #[] #[]) → W.cell? ⟨q1, 0, none⟩ = some (.func (.func (fid p1)) #[] #[]) → W.cell? ⟨q2, 0, none⟩ = some (.func (.func (fid p2)) #[] #[]) →
        Calls Try.prog 67 #[.agg (iar 101 (sqC n F)), .func (.func 68) #[] #[.pointer (some ⟨q0, 0, none⟩), .pointer (some ⟨q1, 0, none⟩), .pointer (some ⟨q2, 0, none⟩)]] W fun e W' => e = .returned (.agg (iar 101 (sqC n (movSt n (conMv F p0 p1 p2) n)))) ∧ Below W.heap.size W W') := fun W q0 q1 q2 h0 h1 h2 =>
      imoved n l2 W F _ _ MVL.out ⟨_, _, _, rfl, enters_of Try.func68 (by kernel_rfl) rfl, fun W' x y hW hx hy => by
        have r0 := cmp3_in (i := p0) hx hy (JF.out x y hx hy)
        have r1 := cmp3_in (i := p1) hx hy (JF.out x y hx hy)
        have e0 : (((conMv F p0 p1 p2 x y).1 : Nat) : Int) = cmp3 p0 x y (F x y) := by rw [MVE.out]; simp only; omega
        have e1 : (((conMv F p0 p1 p2 x y).2.1 : Nat) : Int) = cmp3 p1 x y (F x y) := by rw [MVE.out]; simp only; omega
        have e2 : (conMv F p0 p1 p2 x y).2.2 = cmp3 p2 x y (F x y) := rfl
        rw [e0, e1, e2]
        exact iconclo W' q0 q1 q2 p0 p1 p2 P0 P1 P2 ((hW.cell (p := ⟨q0, 0, none⟩) (World.block_lt_of_cell? W _ h0)).trans h0) ((hW.cell (p := ⟨q1, 0, none⟩) (World.block_lt_of_cell? W _ h1)).trans h1) ((hW.cell (p := ⟨q2, 0, none⟩) (World.block_lt_of_cell? W _ h2)).trans h2) x y (F x y)⟩
    obtain ⟨MV, hMV⟩ : ∃ MV, conMv F p0 p1 p2 = MV := ⟨_, rfl⟩
    rw [hMV] at HM VL
    have HR := Lib.hid (fun W => irows2 n l2 W (movSt n MV n))
    have FIX : ∀ i, i < 3 → (#[.func (.func 63) #[] #[], .func (.func 64) #[] #[], .func (.func 65) #[] #[]] : Array Value)[i]? = some (.func (.func (fid i)) #[] #[]) := fun i hi => by
      rcases (show i = 0 ∨ i = 1 ∨ i = 2 by omega) with rfl | rfl | rfl <;> rfl
    have HF0 := FIX p0 P0
    have HF1 := FIX p1 P1
    have HF2 := FIX p2 P2
    obtain ⟨F0, hF0⟩ : ∃ f : Value, .func (.func (fid p0)) #[] #[] = f := ⟨_, rfl⟩
    obtain ⟨F1, hF1⟩ : ∃ f : Value, .func (.func (fid p1)) #[] #[] = f := ⟨_, rfl⟩
    obtain ⟨F2, hF2⟩ : ∃ f : Value, .func (.func (fid p2)) #[] #[] = f := ⟨_, rfl⟩
    have G0 : ∃ f, F0 = .func (.func f) #[] #[] := ⟨_, hF0.symm⟩
    have G1 : ∃ f, F1 = .func (.func f) #[] #[] := ⟨_, hF1.symm⟩
    have G2 : ∃ f, F2 = .func (.func f) #[] #[] := ⟨_, hF2.symm⟩
    rw [hF0] at HF0
    rw [hF1] at HF1
    rw [hF2] at HF2
    simp only [hF0, hF1, hF2] at HM
    have a0 : (0 : Int) ≤ (p0 : Int) := by omega
    have a1 : (0 : Int) ≤ (p1 : Int) := by omega
    have a2 : (0 : Int) ≤ (p2 : Int) := by omega
    have a3 : (p0 : Int) < 3 := by omega
    have a4 : (p1 : Int) < 3 := by omega
    have a5 : (p2 : Int) < 3 := by omega
    clear VF VO c hU hp0 hp1 hp2 pl0 pl1 pl2 MVE MVL hMV hF0 hF1 hF2 FIX
    go_wp2_with fail
    refine HU.out.mono ?_
    rintro e w5 ⟨u, rfl, i5, b5⟩
    obtain ⟨gp, fp, gc, rfl, lk⟩ : ∃ gp fp gc, u = .slice (some ⟨gp, fp, none⟩) 3 gc ∧ ∀ i, i < 3 → w5.cell? ⟨gp, fp + i, none⟩ = some (.int .i64 (U.getD i 0)) := by
      have := i5.at
      obtain ⟨_, ⟨rfl, -⟩ | ⟨g, off, cap, rfl, h⟩⟩ := this
      · have := PLL.out; simp at this
      · rw [PLL.out] at h ⊢; exact ⟨g, off, cap, rfl, h⟩
    have c0 := lk 0 (by omega)
    have c1 := lk 1 (by omega)
    have c2 := lk 2 (by omega)
    rw [PZ.out] at c0
    rw [PO.out] at c1
    rw [PT.out] at c2
    rw [Nat.add_zero] at c0
    have s5 := b5.size
    rw [hq4.out] at s5
    have P5 : w5.heap[g + 1]? = some (.cells #[.func (.func 63) #[] #[], .func (.func 64) #[] #[], .func (.func 65) #[] #[]] 73 (0, 0)) := (b5.block (g + 1) (by rw [hq4.out]; omega)).trans HP4.out
    have X5 := Lib.hid (SqAt.below HX4.out b5 (by rw [hq4.out]; omega))
    have B5 := Lib.hid (t_chain B4.out b5)
    have f0 : w5.cell? ⟨g + 1, p0, none⟩ = some F0 := by rw [cell_of_row w5 (g + 1) p0 _ _ _ P5]; exact HF0
    have f1 : w5.cell? ⟨g + 1, p1, none⟩ = some F1 := by rw [cell_of_row w5 (g + 1) p1 _ _ _ P5]; exact HF1
    have f2 : w5.cell? ⟨g + 1, p2, none⟩ = some F2 := by rw [cell_of_row w5 (g + 1) p2 _ _ _ P5]; exact HF2
    have gpl := World.block_lt_of_cell? w5 _ c0
    simp only at gpl
    -- the region
    obtain ⟨wd, hwd⟩ : ∃ wd, w5.drew = wd := ⟨_, rfl⟩
    obtain ⟨H, hH⟩ : ∃ H, w5.heap.size = H := ⟨_, rfl⟩
    rw [hH] at gpl s5
    have wH : w.heap.size ≤ H := by rw [← hH]; exact B5.out.size
    have z0 : wd.heap.size = H := by rw [← hwd]; exact hH
    have KEY : Hid (∀ W : World, Hid (Below H wd W) → W.cell? ⟨gp, fp, none⟩ = some (.int .i64 p0) ∧ W.cell? ⟨gp, fp + 1, none⟩ = some (.int .i64 p1) ∧ W.cell? ⟨gp, fp + 2, none⟩ = some (.int .i64 p2) ∧ W.cell? ⟨g + 1, p0, none⟩ = some F0 ∧ W.cell? ⟨g + 1, p1, none⟩ = some F1 ∧ W.cell? ⟨g + 1, p2, none⟩ = some F2 ∧ Hid (Below H wd W)) := fun W h => by
      rw [← hwd] at h
      refine ⟨(h.out.cell (p := ⟨gp, fp, none⟩) gpl).trans c0, (h.out.cell (p := ⟨gp, fp + 1, none⟩) gpl).trans c1, (h.out.cell (p := ⟨gp, fp + 2, none⟩) gpl).trans c2, (h.out.cell (p := ⟨g + 1, p0, none⟩) (by simp only; omega)).trans f0, (h.out.cell (p := ⟨g + 1, p1, none⟩) (by simp only; omega)).trans f1, (h.out.cell (p := ⟨g + 1, p2, none⟩) (by simp only; omega)).trans f2, by rw [← hwd]; exact h⟩
    have Bd : Hid (Below H wd wd) := Below.refl _ _
    have XD : SqAt wd g n F := by rw [← hwd]; exact X5.out
    have BD : Below w.heap.size w wd := by rw [← hwd]; exact B5.out.drew
    -- three variables
    have z1 : (wd.alloc (.cells #[.nilFunc] 69)).heap.size = H + 1 := by rw [World.size_alloc, z0]
    have Ba : Hid (Below H wd (wd.alloc (.cells #[.nilFunc] 69))) := (Below.refl _ _).alloc (by omega) _
    have h1 : (wd.alloc (.cells #[.nilFunc] 69)).heap[H]? = some (.cells #[.nilFunc] 69 (0, 0)) := by rw [← z0]; exact heap_alloc_new _ _
    obtain ⟨wa, hwa⟩ : ∃ wa, wd.alloc (.cells #[.nilFunc] 69) = wa := ⟨_, rfl⟩
    rw [hwa] at z1 Ba h1
    have z2 : (wa.alloc (.cells #[.nilFunc] 69)).heap.size = H + 2 := by rw [World.size_alloc, z1]
    have Bb : Hid (Below H wd (wa.alloc (.cells #[.nilFunc] 69))) := Ba.out.alloc (by omega) _
    have h2 : (wa.alloc (.cells #[.nilFunc] 69)).heap[H]? = some (.cells #[.nilFunc] 69 (0, 0)) := (heap_alloc_old _ _ (by omega)).trans h1
    have h3 : (wa.alloc (.cells #[.nilFunc] 69)).heap[H + 1]? = some (.cells #[.nilFunc] 69 (0, 0)) := by rw [← z1]; exact heap_alloc_new _ _
    obtain ⟨wb, hwb⟩ : ∃ wb, wa.alloc (.cells #[.nilFunc] 69) = wb := ⟨_, rfl⟩
    rw [hwb] at z2 Bb h2 h3
    have Bc : Hid (Below H wd (wb.alloc (.cells #[.nilFunc] 69))) := Bb.out.alloc (by omega) _
    have k0 : (wb.alloc (.cells #[.nilFunc] 69)).heap[H]? = some (.cells #[.nilFunc] 69 (0, 0)) := (heap_alloc_old _ _ (by omega)).trans h2
    have k1 : (wb.alloc (.cells #[.nilFunc] 69)).heap[H + 1]? = some (.cells #[.nilFunc] 69 (0, 0)) := (heap_alloc_old _ _ (by omega)).trans h3
    have k2 : (wb.alloc (.cells #[.nilFunc] 69)).heap[H + 2]? = some (.cells #[.nilFunc] 69 (0, 0)) := by rw [← z2]; exact heap_alloc_new _ _
    obtain ⟨wc, hwc⟩ : ∃ wc, wb.alloc (.cells #[.nilFunc] 69) = wc := ⟨_, rfl⟩
    rw [hwc] at Bc k0 k1 k2
    have K0 := Lib.hid k0
    have K1 := Lib.hid k1
    have K2 := Lib.hid k2
    have HXD := Lib.hid XD
    have HBD := Lib.hid BD
    have KS : Hid (∀ (V : World) (p : Nat) (u : Value), H ≤ p → Hid (Below H wd V) → Hid (Below H wd (V.setCell ⟨p, 0, none⟩ u))) := fun V p u hp h => h.out.setCell (p := ⟨p, 0, none⟩) hp _
    have KX : Hid (∀ W : World, Hid (Below H wd W) → SqAt W g n F ∧ Below w.heap.size w W) := fun W h => ⟨SqAt.below HXD.out h.out (by omega), HBD.out.trans (h.out.mono wH)⟩
    obtain ⟨ff0, rfl⟩ := G0
    obtain ⟨ff1, rfl⟩ := G1
    obtain ⟨ff2, rfl⟩ := G2
    clear i5 b5 lk c0 c1 c2 P5 f0 f1 f2 XD BD h1 h2 h3 k0 k1 k2 HF0 HF1 HF2 HU
    go_wp2
    refine wp_region_held_drew (S := fun W => W.cell? ⟨gp, fp, none⟩ = some (.int .i64 p0) ∧ W.cell? ⟨gp, fp + 1, none⟩ = some (.int .i64 p1) ∧ W.cell? ⟨gp, fp + 2, none⟩ = some (.int .i64 p2) ∧ W.cell? ⟨g + 1, p0, none⟩ = some (.func (.func ff0) #[] #[]) ∧ W.cell? ⟨g + 1, p1, none⟩ = some (.func (.func ff1) #[] #[]) ∧ W.cell? ⟨g + 1, p2, none⟩ = some (.func (.func ff2) #[] #[]) ∧ Hid (Below H wd W)) (by kernel_rfl) (by rw [hwd]; exact KEY.out _ Bd) (fun hHeld => ?_)
    rw [hwd] at hHeld
    rw [hwd]
    clear hwd
    refine wpAnyH_take (i := 0) (oi := { dst := some 30, op := Op.move (Operand.tmp 9), type := 35, pos := "l06_squares.go:143", after := #[], guard := none }) (v := ?_) rfl (by kernel_rfl) (by kernel_rfl) (by kernel_rfl) (fun _ _ _ h => h) (Or.inl ⟨by rfl, ?_⟩) (by assumption) ?_
    rotate_left
    · intro w hSw; (try dsimp only at hSw); go_simp
      try with_reducible rfl
    simp only [Act.put, List.setIfInBounds_toArray, List.set_cons_zero, List.set_cons_succ]
    refine wpAnyH_take (i := 1) (oi := { dst := some 31, op := Op.indexAddr 35 (Operand.tmp 30) (Operand.const (Value.int IntKind.i64 0)), type := 0, pos := "l06_squares.go:143", after := #[{ on := 0, ground := Ground.data }], guard := none }) (v := ?_) rfl (by kernel_rfl) (by kernel_rfl) (by kernel_rfl) (fun _ _ _ h => h) (Or.inl ⟨by rfl, ?_⟩) (by assumption) ?_
    rotate_left
    · intro w hSw; (try dsimp only at hSw); go_simp
      try with_reducible rfl
    simp only [Act.put, List.setIfInBounds_toArray, List.set_cons_zero, List.set_cons_succ]
    refine wpAnyH_take (i := 2) (oi := { dst := some 32, op := Op.load 2 (Operand.tmp 31), type := 2, pos := "l06_squares.go:143", after := #[{ on := 1, ground := Ground.data }], guard := none }) (v := ?_) rfl (by kernel_rfl) (by kernel_rfl) (by kernel_rfl) (fun _ _ _ h => h) (Or.inl ⟨by rfl, ?_⟩) (by assumption) ?_
    rotate_left
    · intro w hSw; (try dsimp only at hSw); go_simp
      try with_reducible rfl
    simp only [Act.put, List.setIfInBounds_toArray, List.set_cons_zero, List.set_cons_succ]
    refine wpAnyH_take (i := 3) (oi := { dst := some 33, op := Op.indexAddr 73 (Operand.tmp 8) (Operand.tmp 32), type := 0, pos := "l06_squares.go:143", after := #[{ on := 2, ground := Ground.data }], guard := none }) (v := ?_) rfl (by kernel_rfl) (by kernel_rfl) (by kernel_rfl) (fun _ _ _ h => h) (Or.inl ⟨by rfl, ?_⟩) (by assumption) ?_
    rotate_left
    · intro w hSw; (try dsimp only at hSw); go_simp
      try with_reducible rfl
    simp only [Act.put, List.setIfInBounds_toArray, List.set_cons_zero, List.set_cons_succ]
    refine wpAnyH_take (i := 4) (oi := { dst := some 34, op := Op.load 69 (Operand.tmp 33), type := 69, pos := "l06_squares.go:143", after := #[{ on := 3, ground := Ground.data }], guard := none }) (v := ?_) rfl (by kernel_rfl) (by kernel_rfl) (by kernel_rfl) (fun _ _ _ h => h) (Or.inl ⟨by rfl, ?_⟩) (by assumption) ?_
    rotate_left
    · intro w hSw; (try dsimp only at hSw); go_simp
      try with_reducible rfl
    simp only [Act.put, List.setIfInBounds_toArray, List.set_cons_zero, List.set_cons_succ]
    refine wpAnyH_take (i := 5) (oi := { dst := some 35, op := Op.move (Operand.tmp 9), type := 35, pos := "l06_squares.go:143", after := #[{ on := 18, ground := Ground.gcOnly Departure.lateStores }], guard := none }) (v := ?_) rfl (by kernel_rfl) (by kernel_rfl) (by kernel_rfl) (fun _ _ _ h => h) (Or.inl ⟨by rfl, ?_⟩) (by assumption) ?_
    rotate_left
    · intro w hSw; (try dsimp only at hSw); go_simp
      try with_reducible rfl
    simp only [Act.put, List.setIfInBounds_toArray, List.set_cons_zero, List.set_cons_succ]
    refine wpAnyH_take (i := 6) (oi := { dst := some 36, op := Op.indexAddr 35 (Operand.tmp 35) (Operand.const (Value.int IntKind.i64 1)), type := 0, pos := "l06_squares.go:143", after := #[{ on := 5, ground := Ground.data }, { on := 18, ground := Ground.gcOnly Departure.lateStores }], guard := none }) (v := ?_) rfl (by kernel_rfl) (by kernel_rfl) (by kernel_rfl) (fun _ _ _ h => h) (Or.inl ⟨by rfl, ?_⟩) (by assumption) ?_
    rotate_left
    · intro w hSw; (try dsimp only at hSw); go_simp
      try with_reducible rfl
    simp only [Act.put, List.setIfInBounds_toArray, List.set_cons_zero, List.set_cons_succ]
    refine wpAnyH_take (i := 7) (oi := { dst := some 37, op := Op.load 2 (Operand.tmp 36), type := 2, pos := "l06_squares.go:143", after := #[{ on := 6, ground := Ground.data }, { on := 18, ground := Ground.gcOnly Departure.lateStores }], guard := none }) (v := ?_) rfl (by kernel_rfl) (by kernel_rfl) (by kernel_rfl) (fun _ _ _ h => h) (Or.inl ⟨by rfl, ?_⟩) (by assumption) ?_
    rotate_left
    · intro w hSw; (try dsimp only at hSw); go_simp
      try with_reducible rfl
    simp only [Act.put, List.setIfInBounds_toArray, List.set_cons_zero, List.set_cons_succ]
    refine wpAnyH_take (i := 8) (oi := { dst := some 38, op := Op.indexAddr 73 (Operand.tmp 8) (Operand.tmp 37), type := 0, pos := "l06_squares.go:143", after := #[{ on := 7, ground := Ground.data }, { on := 18, ground := Ground.gcOnly Departure.lateStores }], guard := none }) (v := ?_) rfl (by kernel_rfl) (by kernel_rfl) (by kernel_rfl) (fun _ _ _ h => h) (Or.inl ⟨by rfl, ?_⟩) (by assumption) ?_
    rotate_left
    · intro w hSw; (try dsimp only at hSw); go_simp
      try with_reducible rfl
    simp only [Act.put, List.setIfInBounds_toArray, List.set_cons_zero, List.set_cons_succ]
    refine wpAnyH_take (i := 9) (oi := { dst := some 39, op := Op.load 69 (Operand.tmp 38), type := 69, pos := "l06_squares.go:143", after := #[{ on := 8, ground := Ground.data }, { on := 18, ground := Ground.gcOnly Departure.lateStores }], guard := none }) (v := ?_) rfl (by kernel_rfl) (by kernel_rfl) (by kernel_rfl) (fun _ _ _ h => h) (Or.inl ⟨by rfl, ?_⟩) (by assumption) ?_
    rotate_left
    · intro w hSw; (try dsimp only at hSw); go_simp
      try with_reducible rfl
    simp only [Act.put, List.setIfInBounds_toArray, List.set_cons_zero, List.set_cons_succ]
    refine wpAnyH_take (i := 10) (oi := { dst := some 40, op := Op.move (Operand.tmp 9), type := 35, pos := "l06_squares.go:143", after := #[{ on := 19, ground := Ground.gcOnly Departure.lateStores }], guard := none }) (v := ?_) rfl (by kernel_rfl) (by kernel_rfl) (by kernel_rfl) (fun _ _ _ h => h) (Or.inl ⟨by rfl, ?_⟩) (by assumption) ?_
    rotate_left
    · intro w hSw; (try dsimp only at hSw); go_simp
      try with_reducible rfl
    simp only [Act.put, List.setIfInBounds_toArray, List.set_cons_zero, List.set_cons_succ]
    refine wpAnyH_take (i := 11) (oi := { dst := some 41, op := Op.indexAddr 35 (Operand.tmp 40) (Operand.const (Value.int IntKind.i64 2)), type := 0, pos := "l06_squares.go:143", after := #[{ on := 10, ground := Ground.data }, { on := 19, ground := Ground.gcOnly Departure.lateStores }], guard := none }) (v := ?_) rfl (by kernel_rfl) (by kernel_rfl) (by kernel_rfl) (fun _ _ _ h => h) (Or.inl ⟨by rfl, ?_⟩) (by assumption) ?_
    rotate_left
    · intro w hSw; (try dsimp only at hSw); go_simp
      try with_reducible rfl
    simp only [Act.put, List.setIfInBounds_toArray, List.set_cons_zero, List.set_cons_succ]
    refine wpAnyH_take (i := 12) (oi := { dst := some 42, op := Op.load 2 (Operand.tmp 41), type := 2, pos := "l06_squares.go:143", after := #[{ on := 11, ground := Ground.data }, { on := 19, ground := Ground.gcOnly Departure.lateStores }], guard := none }) (v := ?_) rfl (by kernel_rfl) (by kernel_rfl) (by kernel_rfl) (fun _ _ _ h => h) (Or.inl ⟨by rfl, ?_⟩) (by assumption) ?_
    rotate_left
    · intro w hSw; (try dsimp only at hSw); go_simp
      try with_reducible rfl
    simp only [Act.put, List.setIfInBounds_toArray, List.set_cons_zero, List.set_cons_succ]
    refine wpAnyH_take (i := 13) (oi := { dst := some 43, op := Op.indexAddr 73 (Operand.tmp 8) (Operand.tmp 42), type := 0, pos := "l06_squares.go:143", after := #[{ on := 12, ground := Ground.data }, { on := 19, ground := Ground.gcOnly Departure.lateStores }], guard := none }) (v := ?_) rfl (by kernel_rfl) (by kernel_rfl) (by kernel_rfl) (fun _ _ _ h => h) (Or.inl ⟨by rfl, ?_⟩) (by assumption) ?_
    rotate_left
    · intro w hSw; (try dsimp only at hSw); go_simp
      try with_reducible rfl
    simp only [Act.put, List.setIfInBounds_toArray, List.set_cons_zero, List.set_cons_succ]
    refine wpAnyH_take (i := 14) (oi := { dst := some 44, op := Op.load 69 (Operand.tmp 43), type := 69, pos := "l06_squares.go:143", after := #[{ on := 13, ground := Ground.data }, { on := 19, ground := Ground.gcOnly Departure.lateStores }], guard := none }) (v := ?_) rfl (by kernel_rfl) (by kernel_rfl) (by kernel_rfl) (fun _ _ _ h => h) (Or.inl ⟨by rfl, ?_⟩) (by assumption) ?_
    rotate_left
    · intro w hSw; (try dsimp only at hSw); go_simp
      try with_reducible rfl
    simp only [Act.put, List.setIfInBounds_toArray, List.set_cons_zero, List.set_cons_succ]
    refine wpAnyH_ready (rs := [15, 16, 17]) (by kernel_rfl) (by simp) ?_
    refine AllReadyH.cons rfl (fun K hK => ?_) ?_
    · go_simp
      refine hK.out _ _ (KEY.out _ Ba) (fun hHeld => ?_)
      clear hK K
      refine wpAnyH_ready (rs := [16, 17]) (by kernel_rfl) (by simp) ?_
      refine AllReadyH.cons rfl (fun K hK => ?_) ?_
      · go_simp
        refine hK.out _ _ (KEY.out _ Bb) (fun hHeld => ?_)
        clear hK K
        refine wpAnyH_ready (rs := [17]) (by kernel_rfl) (by simp) ?_
        refine AllReadyH.cons rfl (fun K hK => ?_) ?_
        · go_simp
          refine hK.out _ _ (KEY.out _ Bc) (fun hHeld => ?_)
          clear hK K
          have TV := three_vars wc _ (H) (H + 1) (H + 2) (by omega) (by omega) (by omega) K0.out K1.out K2.out (.func (.func ff0) #[] #[]) (.func (.func ff1) #[] #[]) (.func (.func ff2) #[] #[])
          obtain ⟨⟨t1, t2⟩, ⟨t3, t4⟩, ⟨t5, t6⟩, t7, t8, t9⟩ := TV
          have Y1 := KS.out wc (H) (.func (.func ff0) #[] #[]) (by omega) Bc
          obtain ⟨y1, hy1⟩ : ∃ y, wc.setCell ⟨H, 0, none⟩ (.func (.func ff0) #[] #[]) = y := ⟨_, rfl⟩
          rw [hy1] at t3 t4 t5 t6 t7 t8 t9 Y1
          have Y2 := KS.out y1 (H + 1) (.func (.func ff1) #[] #[]) (by omega) Y1
          obtain ⟨y2, hy2⟩ : ∃ y, y1.setCell ⟨H + 1, 0, none⟩ (.func (.func ff1) #[] #[]) = y := ⟨_, rfl⟩
          rw [hy2] at t5 t6 t7 t8 t9 Y2
          have Y3 := KS.out y2 (H + 2) (.func (.func ff2) #[] #[]) (by omega) Y2
          obtain ⟨y3, hy3⟩ : ∃ y, y2.setCell ⟨H + 2, 0, none⟩ (.func (.func ff2) #[] #[]) = y := ⟨_, rfl⟩
          rw [hy3] at t7 t8 t9 Y3
          have MM := Lib.hid (HM.out y3 (H) (H + 1) (H + 2) t7 t8 t9)
          have KK := KX.out y3 Y3
          have KSq := Lib.hid KK.1
          have KBl := Lib.hid KK.2
          clear t7 t8 t9 KK
          refine wpAnyH_ready (rs := [18]) (by kernel_rfl) (by simp) ?_
          refine AllReadyH.cons rfl (fun K hK => ?_) AllReadyH.nil
          go_simp
          refine hK.out _ _ (KEY.out _ Y1) (fun hHeld => ?_)
          clear hK K
          refine wpAnyH_ready (rs := [19]) (by kernel_rfl) (by simp) ?_
          refine AllReadyH.cons rfl (fun K hK => ?_) AllReadyH.nil
          go_simp
          refine hK.out _ _ (KEY.out _ Y2) (fun hHeld => ?_)
          clear hK K
          refine wpAnyH_ready (rs := [20]) (by kernel_rfl) (by simp) ?_
          refine AllReadyH.cons rfl (fun K hK => ?_) AllReadyH.nil
          go_simp
          refine hK.out _ _ (KEY.out _ Y3) (fun hHeld => ?_)
          clear hK K
          refine wpAnyH_done (by kernel_rfl) ?_ _
          clear t1 t2 t3 t4 t5 t6 hy1 hy2 hy3
          go_wp2_with (refine wpList_load_row rfl 46 (.tmp 6) rfl _ rfl _ _ _ _ KSq.out Try.underlying46 rfl (by rw [iar_size]; exact Try.infoSq) ?_)
          refine MM.out.mono ?_
          rintro e w8 ⟨rfl, b8⟩
          have B8 := Lib.hid (t_chain KBl.out b8)
          clear b8
          go_wp2_with fail
          refine (HR.out w8).mono ?_
          rintro e w9 ⟨r, rfl, r9, b9⟩
          have R9 := Lib.hid (r9.mono (B' := w.heap.size) B8.out.size (Nat.le_refl _) (Nat.le_refl _))
          have B9 := Lib.hid (t_chain B8.out b9)
          rw [← VL.out] at R9
          clear r9 b9
          go_wp2
          go_ret2
          exact ⟨_, by rw [V.out.2]; rfl, by rw [V.out.1]; exact R9.out, B9.out⟩
        exact AllReadyH.nil
      refine AllReadyH.cons rfl (fun K hK => ?_) ?_
      · go_simp
        refine hK.out _ _ (KEY.out _ Bb) (fun hHeld => ?_)
        clear hK K
        refine wpAnyH_ready (rs := [16]) (by kernel_rfl) (by simp) ?_
        refine AllReadyH.cons rfl (fun K hK => ?_) ?_
        · go_simp
          refine hK.out _ _ (KEY.out _ Bc) (fun hHeld => ?_)
          clear hK K
          have TV := three_vars wc _ (H) (H + 2) (H + 1) (by omega) (by omega) (by omega) K0.out K2.out K1.out (.func (.func ff0) #[] #[]) (.func (.func ff1) #[] #[]) (.func (.func ff2) #[] #[])
          obtain ⟨⟨t1, t2⟩, ⟨t3, t4⟩, ⟨t5, t6⟩, t7, t8, t9⟩ := TV
          have Y1 := KS.out wc (H) (.func (.func ff0) #[] #[]) (by omega) Bc
          obtain ⟨y1, hy1⟩ : ∃ y, wc.setCell ⟨H, 0, none⟩ (.func (.func ff0) #[] #[]) = y := ⟨_, rfl⟩
          rw [hy1] at t3 t4 t5 t6 t7 t8 t9 Y1
          have Y2 := KS.out y1 (H + 2) (.func (.func ff1) #[] #[]) (by omega) Y1
          obtain ⟨y2, hy2⟩ : ∃ y, y1.setCell ⟨H + 2, 0, none⟩ (.func (.func ff1) #[] #[]) = y := ⟨_, rfl⟩
          rw [hy2] at t5 t6 t7 t8 t9 Y2
          have Y3 := KS.out y2 (H + 1) (.func (.func ff2) #[] #[]) (by omega) Y2
          obtain ⟨y3, hy3⟩ : ∃ y, y2.setCell ⟨H + 1, 0, none⟩ (.func (.func ff2) #[] #[]) = y := ⟨_, rfl⟩
          rw [hy3] at t7 t8 t9 Y3
          have MM := Lib.hid (HM.out y3 (H) (H + 2) (H + 1) t7 t8 t9)
          have KK := KX.out y3 Y3
          have KSq := Lib.hid KK.1
          have KBl := Lib.hid KK.2
          clear t7 t8 t9 KK
          refine wpAnyH_ready (rs := [18]) (by kernel_rfl) (by simp) ?_
          refine AllReadyH.cons rfl (fun K hK => ?_) AllReadyH.nil
          go_simp
          refine hK.out _ _ (KEY.out _ Y1) (fun hHeld => ?_)
          clear hK K
          refine wpAnyH_ready (rs := [19]) (by kernel_rfl) (by simp) ?_
          refine AllReadyH.cons rfl (fun K hK => ?_) AllReadyH.nil
          go_simp
          refine hK.out _ _ (KEY.out _ Y2) (fun hHeld => ?_)
          clear hK K
          refine wpAnyH_ready (rs := [20]) (by kernel_rfl) (by simp) ?_
          refine AllReadyH.cons rfl (fun K hK => ?_) AllReadyH.nil
          go_simp
          refine hK.out _ _ (KEY.out _ Y3) (fun hHeld => ?_)
          clear hK K
          refine wpAnyH_done (by kernel_rfl) ?_ _
          clear t1 t2 t3 t4 t5 t6 hy1 hy2 hy3
          go_wp2_with (refine wpList_load_row rfl 46 (.tmp 6) rfl _ rfl _ _ _ _ KSq.out Try.underlying46 rfl (by rw [iar_size]; exact Try.infoSq) ?_)
          refine MM.out.mono ?_
          rintro e w8 ⟨rfl, b8⟩
          have B8 := Lib.hid (t_chain KBl.out b8)
          clear b8
          go_wp2_with fail
          refine (HR.out w8).mono ?_
          rintro e w9 ⟨r, rfl, r9, b9⟩
          have R9 := Lib.hid (r9.mono (B' := w.heap.size) B8.out.size (Nat.le_refl _) (Nat.le_refl _))
          have B9 := Lib.hid (t_chain B8.out b9)
          rw [← VL.out] at R9
          clear r9 b9
          go_wp2
          go_ret2
          exact ⟨_, by rw [V.out.2]; rfl, by rw [V.out.1]; exact R9.out, B9.out⟩
        exact AllReadyH.nil
      exact AllReadyH.nil
    refine AllReadyH.cons rfl (fun K hK => ?_) ?_
    · go_simp
      refine hK.out _ _ (KEY.out _ Ba) (fun hHeld => ?_)
      clear hK K
      refine wpAnyH_ready (rs := [15, 17]) (by kernel_rfl) (by simp) ?_
      refine AllReadyH.cons rfl (fun K hK => ?_) ?_
      · go_simp
        refine hK.out _ _ (KEY.out _ Bb) (fun hHeld => ?_)
        clear hK K
        refine wpAnyH_ready (rs := [17]) (by kernel_rfl) (by simp) ?_
        refine AllReadyH.cons rfl (fun K hK => ?_) ?_
        · go_simp
          refine hK.out _ _ (KEY.out _ Bc) (fun hHeld => ?_)
          clear hK K
          have TV := three_vars wc _ (H + 1) (H) (H + 2) (by omega) (by omega) (by omega) K1.out K0.out K2.out (.func (.func ff0) #[] #[]) (.func (.func ff1) #[] #[]) (.func (.func ff2) #[] #[])
          obtain ⟨⟨t1, t2⟩, ⟨t3, t4⟩, ⟨t5, t6⟩, t7, t8, t9⟩ := TV
          have Y1 := KS.out wc (H + 1) (.func (.func ff0) #[] #[]) (by omega) Bc
          obtain ⟨y1, hy1⟩ : ∃ y, wc.setCell ⟨H + 1, 0, none⟩ (.func (.func ff0) #[] #[]) = y := ⟨_, rfl⟩
          rw [hy1] at t3 t4 t5 t6 t7 t8 t9 Y1
          have Y2 := KS.out y1 (H) (.func (.func ff1) #[] #[]) (by omega) Y1
          obtain ⟨y2, hy2⟩ : ∃ y, y1.setCell ⟨H, 0, none⟩ (.func (.func ff1) #[] #[]) = y := ⟨_, rfl⟩
          rw [hy2] at t5 t6 t7 t8 t9 Y2
          have Y3 := KS.out y2 (H + 2) (.func (.func ff2) #[] #[]) (by omega) Y2
          obtain ⟨y3, hy3⟩ : ∃ y, y2.setCell ⟨H + 2, 0, none⟩ (.func (.func ff2) #[] #[]) = y := ⟨_, rfl⟩
          rw [hy3] at t7 t8 t9 Y3
          have MM := Lib.hid (HM.out y3 (H + 1) (H) (H + 2) t7 t8 t9)
          have KK := KX.out y3 Y3
          have KSq := Lib.hid KK.1
          have KBl := Lib.hid KK.2
          clear t7 t8 t9 KK
          refine wpAnyH_ready (rs := [18]) (by kernel_rfl) (by simp) ?_
          refine AllReadyH.cons rfl (fun K hK => ?_) AllReadyH.nil
          go_simp
          refine hK.out _ _ (KEY.out _ Y1) (fun hHeld => ?_)
          clear hK K
          refine wpAnyH_ready (rs := [19]) (by kernel_rfl) (by simp) ?_
          refine AllReadyH.cons rfl (fun K hK => ?_) AllReadyH.nil
          go_simp
          refine hK.out _ _ (KEY.out _ Y2) (fun hHeld => ?_)
          clear hK K
          refine wpAnyH_ready (rs := [20]) (by kernel_rfl) (by simp) ?_
          refine AllReadyH.cons rfl (fun K hK => ?_) AllReadyH.nil
          go_simp
          refine hK.out _ _ (KEY.out _ Y3) (fun hHeld => ?_)
          clear hK K
          refine wpAnyH_done (by kernel_rfl) ?_ _
          clear t1 t2 t3 t4 t5 t6 hy1 hy2 hy3
          go_wp2_with (refine wpList_load_row rfl 46 (.tmp 6) rfl _ rfl _ _ _ _ KSq.out Try.underlying46 rfl (by rw [iar_size]; exact Try.infoSq) ?_)
          refine MM.out.mono ?_
          rintro e w8 ⟨rfl, b8⟩
          have B8 := Lib.hid (t_chain KBl.out b8)
          clear b8
          go_wp2_with fail
          refine (HR.out w8).mono ?_
          rintro e w9 ⟨r, rfl, r9, b9⟩
          have R9 := Lib.hid (r9.mono (B' := w.heap.size) B8.out.size (Nat.le_refl _) (Nat.le_refl _))
          have B9 := Lib.hid (t_chain B8.out b9)
          rw [← VL.out] at R9
          clear r9 b9
          go_wp2
          go_ret2
          exact ⟨_, by rw [V.out.2]; rfl, by rw [V.out.1]; exact R9.out, B9.out⟩
        exact AllReadyH.nil
      refine AllReadyH.cons rfl (fun K hK => ?_) ?_
      · go_simp
        refine hK.out _ _ (KEY.out _ Bb) (fun hHeld => ?_)
        clear hK K
        refine wpAnyH_ready (rs := [15]) (by kernel_rfl) (by simp) ?_
        refine AllReadyH.cons rfl (fun K hK => ?_) ?_
        · go_simp
          refine hK.out _ _ (KEY.out _ Bc) (fun hHeld => ?_)
          clear hK K
          have TV := three_vars wc _ (H + 2) (H) (H + 1) (by omega) (by omega) (by omega) K2.out K0.out K1.out (.func (.func ff0) #[] #[]) (.func (.func ff1) #[] #[]) (.func (.func ff2) #[] #[])
          obtain ⟨⟨t1, t2⟩, ⟨t3, t4⟩, ⟨t5, t6⟩, t7, t8, t9⟩ := TV
          have Y1 := KS.out wc (H + 2) (.func (.func ff0) #[] #[]) (by omega) Bc
          obtain ⟨y1, hy1⟩ : ∃ y, wc.setCell ⟨H + 2, 0, none⟩ (.func (.func ff0) #[] #[]) = y := ⟨_, rfl⟩
          rw [hy1] at t3 t4 t5 t6 t7 t8 t9 Y1
          have Y2 := KS.out y1 (H) (.func (.func ff1) #[] #[]) (by omega) Y1
          obtain ⟨y2, hy2⟩ : ∃ y, y1.setCell ⟨H, 0, none⟩ (.func (.func ff1) #[] #[]) = y := ⟨_, rfl⟩
          rw [hy2] at t5 t6 t7 t8 t9 Y2
          have Y3 := KS.out y2 (H + 1) (.func (.func ff2) #[] #[]) (by omega) Y2
          obtain ⟨y3, hy3⟩ : ∃ y, y2.setCell ⟨H + 1, 0, none⟩ (.func (.func ff2) #[] #[]) = y := ⟨_, rfl⟩
          rw [hy3] at t7 t8 t9 Y3
          have MM := Lib.hid (HM.out y3 (H + 2) (H) (H + 1) t7 t8 t9)
          have KK := KX.out y3 Y3
          have KSq := Lib.hid KK.1
          have KBl := Lib.hid KK.2
          clear t7 t8 t9 KK
          refine wpAnyH_ready (rs := [18]) (by kernel_rfl) (by simp) ?_
          refine AllReadyH.cons rfl (fun K hK => ?_) AllReadyH.nil
          go_simp
          refine hK.out _ _ (KEY.out _ Y1) (fun hHeld => ?_)
          clear hK K
          refine wpAnyH_ready (rs := [19]) (by kernel_rfl) (by simp) ?_
          refine AllReadyH.cons rfl (fun K hK => ?_) AllReadyH.nil
          go_simp
          refine hK.out _ _ (KEY.out _ Y2) (fun hHeld => ?_)
          clear hK K
          refine wpAnyH_ready (rs := [20]) (by kernel_rfl) (by simp) ?_
          refine AllReadyH.cons rfl (fun K hK => ?_) AllReadyH.nil
          go_simp
          refine hK.out _ _ (KEY.out _ Y3) (fun hHeld => ?_)
          clear hK K
          refine wpAnyH_done (by kernel_rfl) ?_ _
          clear t1 t2 t3 t4 t5 t6 hy1 hy2 hy3
          go_wp2_with (refine wpList_load_row rfl 46 (.tmp 6) rfl _ rfl _ _ _ _ KSq.out Try.underlying46 rfl (by rw [iar_size]; exact Try.infoSq) ?_)
          refine MM.out.mono ?_
          rintro e w8 ⟨rfl, b8⟩
          have B8 := Lib.hid (t_chain KBl.out b8)
          clear b8
          go_wp2_with fail
          refine (HR.out w8).mono ?_
          rintro e w9 ⟨r, rfl, r9, b9⟩
          have R9 := Lib.hid (r9.mono (B' := w.heap.size) B8.out.size (Nat.le_refl _) (Nat.le_refl _))
          have B9 := Lib.hid (t_chain B8.out b9)
          rw [← VL.out] at R9
          clear r9 b9
          go_wp2
          go_ret2
          exact ⟨_, by rw [V.out.2]; rfl, by rw [V.out.1]; exact R9.out, B9.out⟩
        exact AllReadyH.nil
      exact AllReadyH.nil
    refine AllReadyH.cons rfl (fun K hK => ?_) ?_
    · go_simp
      refine hK.out _ _ (KEY.out _ Ba) (fun hHeld => ?_)
      clear hK K
      refine wpAnyH_ready (rs := [15, 16]) (by kernel_rfl) (by simp) ?_
      refine AllReadyH.cons rfl (fun K hK => ?_) ?_
      · go_simp
        refine hK.out _ _ (KEY.out _ Bb) (fun hHeld => ?_)
        clear hK K
        refine wpAnyH_ready (rs := [16]) (by kernel_rfl) (by simp) ?_
        refine AllReadyH.cons rfl (fun K hK => ?_) ?_
        · go_simp
          refine hK.out _ _ (KEY.out _ Bc) (fun hHeld => ?_)
          clear hK K
          have TV := three_vars wc _ (H + 1) (H + 2) (H) (by omega) (by omega) (by omega) K1.out K2.out K0.out (.func (.func ff0) #[] #[]) (.func (.func ff1) #[] #[]) (.func (.func ff2) #[] #[])
          obtain ⟨⟨t1, t2⟩, ⟨t3, t4⟩, ⟨t5, t6⟩, t7, t8, t9⟩ := TV
          have Y1 := KS.out wc (H + 1) (.func (.func ff0) #[] #[]) (by omega) Bc
          obtain ⟨y1, hy1⟩ : ∃ y, wc.setCell ⟨H + 1, 0, none⟩ (.func (.func ff0) #[] #[]) = y := ⟨_, rfl⟩
          rw [hy1] at t3 t4 t5 t6 t7 t8 t9 Y1
          have Y2 := KS.out y1 (H + 2) (.func (.func ff1) #[] #[]) (by omega) Y1
          obtain ⟨y2, hy2⟩ : ∃ y, y1.setCell ⟨H + 2, 0, none⟩ (.func (.func ff1) #[] #[]) = y := ⟨_, rfl⟩
          rw [hy2] at t5 t6 t7 t8 t9 Y2
          have Y3 := KS.out y2 (H) (.func (.func ff2) #[] #[]) (by omega) Y2
          obtain ⟨y3, hy3⟩ : ∃ y, y2.setCell ⟨H, 0, none⟩ (.func (.func ff2) #[] #[]) = y := ⟨_, rfl⟩
          rw [hy3] at t7 t8 t9 Y3
          have MM := Lib.hid (HM.out y3 (H + 1) (H + 2) (H) t7 t8 t9)
          have KK := KX.out y3 Y3
          have KSq := Lib.hid KK.1
          have KBl := Lib.hid KK.2
          clear t7 t8 t9 KK
          refine wpAnyH_ready (rs := [18]) (by kernel_rfl) (by simp) ?_
          refine AllReadyH.cons rfl (fun K hK => ?_) AllReadyH.nil
          go_simp
          refine hK.out _ _ (KEY.out _ Y1) (fun hHeld => ?_)
          clear hK K
          refine wpAnyH_ready (rs := [19]) (by kernel_rfl) (by simp) ?_
          refine AllReadyH.cons rfl (fun K hK => ?_) AllReadyH.nil
          go_simp
          refine hK.out _ _ (KEY.out _ Y2) (fun hHeld => ?_)
          clear hK K
          refine wpAnyH_ready (rs := [20]) (by kernel_rfl) (by simp) ?_
          refine AllReadyH.cons rfl (fun K hK => ?_) AllReadyH.nil
          go_simp
          refine hK.out _ _ (KEY.out _ Y3) (fun hHeld => ?_)
          clear hK K
          refine wpAnyH_done (by kernel_rfl) ?_ _
          clear t1 t2 t3 t4 t5 t6 hy1 hy2 hy3
          go_wp2_with (refine wpList_load_row rfl 46 (.tmp 6) rfl _ rfl _ _ _ _ KSq.out Try.underlying46 rfl (by rw [iar_size]; exact Try.infoSq) ?_)
          refine MM.out.mono ?_
          rintro e w8 ⟨rfl, b8⟩
          have B8 := Lib.hid (t_chain KBl.out b8)
          clear b8
          go_wp2_with fail
          refine (HR.out w8).mono ?_
          rintro e w9 ⟨r, rfl, r9, b9⟩
          have R9 := Lib.hid (r9.mono (B' := w.heap.size) B8.out.size (Nat.le_refl _) (Nat.le_refl _))
          have B9 := Lib.hid (t_chain B8.out b9)
          rw [← VL.out] at R9
          clear r9 b9
          go_wp2
          go_ret2
          exact ⟨_, by rw [V.out.2]; rfl, by rw [V.out.1]; exact R9.out, B9.out⟩
        exact AllReadyH.nil
      refine AllReadyH.cons rfl (fun K hK => ?_) ?_
      · go_simp
        refine hK.out _ _ (KEY.out _ Bb) (fun hHeld => ?_)
        clear hK K
        refine wpAnyH_ready (rs := [15]) (by kernel_rfl) (by simp) ?_
        refine AllReadyH.cons rfl (fun K hK => ?_) ?_
        · go_simp
          refine hK.out _ _ (KEY.out _ Bc) (fun hHeld => ?_)
          clear hK K
          have TV := three_vars wc _ (H + 2) (H + 1) (H) (by omega) (by omega) (by omega) K2.out K1.out K0.out (.func (.func ff0) #[] #[]) (.func (.func ff1) #[] #[]) (.func (.func ff2) #[] #[])
          obtain ⟨⟨t1, t2⟩, ⟨t3, t4⟩, ⟨t5, t6⟩, t7, t8, t9⟩ := TV
          have Y1 := KS.out wc (H + 2) (.func (.func ff0) #[] #[]) (by omega) Bc
          obtain ⟨y1, hy1⟩ : ∃ y, wc.setCell ⟨H + 2, 0, none⟩ (.func (.func ff0) #[] #[]) = y := ⟨_, rfl⟩
          rw [hy1] at t3 t4 t5 t6 t7 t8 t9 Y1
          have Y2 := KS.out y1 (H + 1) (.func (.func ff1) #[] #[]) (by omega) Y1
          obtain ⟨y2, hy2⟩ : ∃ y, y1.setCell ⟨H + 1, 0, none⟩ (.func (.func ff1) #[] #[]) = y := ⟨_, rfl⟩
          rw [hy2] at t5 t6 t7 t8 t9 Y2
          have Y3 := KS.out y2 (H) (.func (.func ff2) #[] #[]) (by omega) Y2
          obtain ⟨y3, hy3⟩ : ∃ y, y2.setCell ⟨H, 0, none⟩ (.func (.func ff2) #[] #[]) = y := ⟨_, rfl⟩
          rw [hy3] at t7 t8 t9 Y3
          have MM := Lib.hid (HM.out y3 (H + 2) (H + 1) (H) t7 t8 t9)
          have KK := KX.out y3 Y3
          have KSq := Lib.hid KK.1
          have KBl := Lib.hid KK.2
          clear t7 t8 t9 KK
          refine wpAnyH_ready (rs := [18]) (by kernel_rfl) (by simp) ?_
          refine AllReadyH.cons rfl (fun K hK => ?_) AllReadyH.nil
          go_simp
          refine hK.out _ _ (KEY.out _ Y1) (fun hHeld => ?_)
          clear hK K
          refine wpAnyH_ready (rs := [19]) (by kernel_rfl) (by simp) ?_
          refine AllReadyH.cons rfl (fun K hK => ?_) AllReadyH.nil
          go_simp
          refine hK.out _ _ (KEY.out _ Y2) (fun hHeld => ?_)
          clear hK K
          refine wpAnyH_ready (rs := [20]) (by kernel_rfl) (by simp) ?_
          refine AllReadyH.cons rfl (fun K hK => ?_) AllReadyH.nil
          go_simp
          refine hK.out _ _ (KEY.out _ Y3) (fun hHeld => ?_)
          clear hK K
          refine wpAnyH_done (by kernel_rfl) ?_ _
          clear t1 t2 t3 t4 t5 t6 hy1 hy2 hy3
          go_wp2_with (refine wpList_load_row rfl 46 (.tmp 6) rfl _ rfl _ _ _ _ KSq.out Try.underlying46 rfl (by rw [iar_size]; exact Try.infoSq) ?_)
          refine MM.out.mono ?_
          rintro e w8 ⟨rfl, b8⟩
          have B8 := Lib.hid (t_chain KBl.out b8)
          clear b8
          go_wp2_with fail
          refine (HR.out w8).mono ?_
          rintro e w9 ⟨r, rfl, r9, b9⟩
          have R9 := Lib.hid (r9.mono (B' := w.heap.size) B8.out.size (Nat.le_refl _) (Nat.le_refl _))
          have B9 := Lib.hid (t_chain B8.out b9)
          rw [← VL.out] at R9
          clear r9 b9
          go_wp2
          go_ret2
          exact ⟨_, by rw [V.out.2]; rfl, by rw [V.out.1]; exact R9.out, B9.out⟩
        exact AllReadyH.nil
      exact AllReadyH.nil
    exact AllReadyH.nil
end Go.Proofs.Ytkonddifmonkcaa
