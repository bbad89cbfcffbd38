/- TransversalsOfMate: the program. -/
import Derived.Test.YtkonddifmonkcaaTmv
import Derived.Test.YtkonddifmonkcaaOvx
namespace Go.Proofs.Ytkonddifmonkcaa
open Go.RowKit Go.Shelf
set_option linter.unusedVariables false

/-- Whether two squares in the computing form are orthogonal. -/
theorem ortB_of {xss yss : List (List Int)} {n m : Nat} {F G : Nat → Nat → Int} (h1 : sqB xss = true) (h2 : sqB yss = true) (hn : n = xss.length) (hF : F = sqF xss.length (cellF xss)) (hm : m = yss.length) (hG : G = sqF yss.length (cellF yss)) :
    ortB n m F G = Orthogonal_0 xss yss ∧ InSq n F ∧ InSq m G ∧ 1 ≤ n ∧ n ≤ 10 ∧ 1 ≤ m ∧ m ≤ 10 := by
  have S1 := of_sqB h1
  have S2 := of_sqB h2
  have l1 := S1.lo
  have l2 := S1.hi
  have l3 := S2.lo
  have l4 := S2.hi
  refine ⟨?_, fun a b ha hb => ?_, fun a b ha hb => ?_, by omega, by omega, by omega, by omega⟩
  · unfold ortB
    by_cases k : n = m
    · rw [if_pos k, Orth_ok ⟨h1, h2⟩ (by omega), ← hn]
      refine distB_congr fun q hq => lineG_congr (fun a b ha hb => ?_) hq
      unfold overF
      rw [hF, hG, ← hn, ← hm, sqF_in _ ha hb, sqF_in _ (by omega) (by omega)]
    · rw [if_neg k, Orth_no (fun h => k (by have := h.2; omega))]
  · rw [hF, sqF_in _ (by omega) (by omega), hn]; exact S1.cell (by omega) (by omega)
  · rw [hG, sqF_in _ (by omega) (by omega), hm]; exact S2.cell (by omega) (by omega)

set_option maxRecDepth 100000 in
set_option maxHeartbeats 8000000 in
theorem iTransversalsOfMate (xss yss : List (List Int)) (hx : SmallLL xss) (hy : SmallLL yss) (w : World) (v u : Value) (hv : RowsAt w v xss) (hu : RowsAt w u yss) :
    Calls Try.prog 34 #[v, u] w fun e w' => ∃ r, e = .returned (.tuple #[r, .int .i64 (TransversalsOfMate_1 xss yss)]) ∧ RowsL w' w.heap.size w'.heap.size r (TransversalsOfMate_0 xss yss) ∧ Below w.heap.size w w' := by
  have HA := Lib.hid (ilsq2 w v u xss yss hv hu)
  have HS := Lib.hid (fun W (b : Below w.heap.size w W) (s : Int) (hs : I64 s) => iSymbolColumns yss s hy hs W u (hu.below b (Nat.le_refl _)))
  have VB := Lib.hid (fun k => Tm_bad (xss := xss) (yss := yss) k)
  have VF := Lib.hid (fun k => Tm_far (xss := xss) (yss := yss) k)
  have VO := Lib.hid (fun k => Tm_ok (xss := xss) (yss := yss) k)
  have OO := Lib.hid (fun (h1 : sqB xss = true) (h2 : sqB yss = true) n F m G hn hF hm hG => ortB_of (n := n) (m := m) (F := F) (G := G) h1 h2 hn hF hm hG)
  have SY := Lib.hid (fun k s h => Sym_ok (xss := yss) (s := s) k h)
  obtain ⟨z1, hz1⟩ : ∃ z, sqB xss = z := ⟨_, rfl⟩
  obtain ⟨z2, hz2⟩ : ∃ z, sqB yss = z := ⟨_, rfl⟩
  obtain ⟨z3, hz3⟩ : ∃ z, Orthogonal_0 xss yss = z := ⟨_, rfl⟩
  rw [hz1, hz2] at HA
  simp only [hz1, hz2, hz3] at VB VF VO OO SY
  clear hv hu hx hy hz1 hz2 hz3
  go_enter Try.func34, Try.ntmps34
  go_wp2_with fail
  refine HA.out.mono ?_
  rintro e w1 ⟨n, F, m, G, rfl, hA, hB, b1⟩
  have HAA := Lib.hid hA
  have HBB := Lib.hid hB
  obtain ⟨g, hg⟩ : ∃ g, w1.heap.size = g := ⟨_, rfl⟩
  have hg1 : (w1.alloc (.cells Try.zeroCells46 46)).heap.size = g + 1 := by rw [World.size_alloc, hg]
  obtain ⟨W3, W4, P1, P2, A4, C4, q4, b4⟩ := two_sq w1 n m g F G hg
  have s1 := b1.size
  have B4 := Lib.hid (b1.trans (b4.mono (by omega)))
  have X4 := Lib.hid A4
  have Y4 := Lib.hid C4
  have NL : Hid (RowsL W4 w.heap.size W4.heap.size (.slice none 0 0) []) := RowsL.nil _ _ _ (Nat.le_refl _)
  clear b1 hA hB A4 C4 b4 HA
  by_cases k : z1 = true ∧ z2 = true
  case neg =>
    have V := Lib.hid (VB.out k)
    have kb : (z1 && z2) = false := by cases z1 <;> cases z2 <;> simp_all
    rw [kb]
    clear VB VF VO OO SY k kb
    go_wp2
    go_ret2
    exact ⟨_, by rw [V.out.2]; rfl, by rw [V.out.1]; exact NL.out, B4.out⟩
  obtain ⟨rfl, rfl⟩ := k
  obtain ⟨hn1, hF⟩ := HAA.out rfl
  obtain ⟨hm1, hG⟩ := HBB.out rfl
  obtain ⟨eO, jF, jG, l1, l2, l3, l4⟩ := OO.out rfl rfl n F m G hn1 hF hm1 hG
  have HO := Lib.hid (iortho n m l1 l2 l4 W4 F G jF jG)
  rw [eO] at HO
  have VF2 := Lib.hid (VF.out ⟨rfl, rfl⟩)
  have VO2 := Lib.hid (VO.out ⟨rfl, rfl⟩)
  have SY2 := Lib.hid (SY.out rfl)
  rw [← hm1] at VO2 SY2
  rw [show (true && true) = true from rfl]
  clear VB VF VO OO SY HAA HBB hn1 hF hm1 hG jF jG eO
  cases z3 with
  | false =>
    have V := Lib.hid (VF2.out rfl)
    clear VF2 VO2 SY2
    go_wp2_with (first
      | (refine wpList_load_row rfl 46 (.tmp 6) rfl _ rfl _ _ _ _ X4.out Try.underlying46 rfl (by rw [iar_size]; exact Try.infoSq) ?_)
      | (refine wpList_load_row rfl 46 (.tmp 7) rfl _ rfl _ _ _ _ Y4.out Try.underlying46 rfl (by rw [iar_size]; exact Try.infoSq) ?_))
    refine HO.out.mono ?_
    rintro e w5 ⟨rfl, b5⟩
    have B5 := Lib.hid (t_chain B4.out b5)
    have NL5 : Hid (RowsL w5 w.heap.size w5.heap.size (.slice none 0 0) []) := RowsL.nil _ _ _ (Nat.le_refl _)
    clear b5
    go_wp2
    go_ret2
    exact ⟨_, by rw [V.out.2]; rfl, by rw [V.out.1]; exact NL5.out, B5.out⟩
  | true =>
    have V := Lib.hid (VO2.out rfl)
    have SC : Hid (∀ s : Nat, s < m → SymbolColumns_0 yss ((s : Nat) : Int) = (List.range m).map (tmF yss m s) ∧ SymbolColumns_1 yss ((s : Nat) : Int) = 0) := fun s hs => by
      have := SY2.out ((s : Nat) : Int) ⟨by omega, by omega⟩
      rw [tmF_row] at this
      exact this
    have GS : Hid (∀ j, j < m → (gridP m m (tmF yss m) j).set j ((List.range m).map (tmF yss m j)) = gridP m m (tmF yss m) (j + 1)) := fun j h => gridP_succ m m _ h
    have GL : Hid (∀ j, j ≤ m → (gridP m m (tmF yss m) j).length = m) := fun j h => gridP_length m m _ h
    have GA : Hid (gridP m m (tmF yss m) m = gridL m m (tmF yss m)) := gridP_all m m _
    clear VF2 VO2 SY2
    go_wp2_with (first
      | (refine wpList_load_row rfl 46 (.tmp 6) rfl _ rfl _ _ _ _ X4.out Try.underlying46 rfl (by rw [iar_size]; exact Try.infoSq) ?_)
      | (refine wpList_load_row rfl 46 (.tmp 7) rfl _ rfl _ _ _ _ Y4.out Try.underlying46 rfl (by rw [iar_size]; exact Try.infoSq) ?_))
    refine HO.out.mono ?_
    rintro e w5 ⟨rfl, b5⟩
    have o5 := SqAt.order (SqAt.below Y4.out b5 (by omega))
    have b5' := t_chain B4.out b5
    obtain ⟨B, hB⟩ : ∃ B, w5.heap.size = B := ⟨_, rfl⟩
    have hwB : w.heap.size ≤ B := by rw [← hB]; exact b5'.size
    have hmk := run_make_row' (P := Try.prog) 22 35 (.slice none 0 0) 24 Try.underlying22 Try.infoRow rfl .i64 .i64 m (by omega) (by omega) w5
    have O6 := World.ownsRow_lit (base := B) (e := 35) (size := 1) w5 (madeCells #[.slice none 0 0] m) m (by omega) (by unfold maxLen; omega) (by simp [size_madeCells])
    have b6 : Below w.heap.size w (w5.alloc (.cells (madeCells #[.slice none 0 0] m) 35)) := b5'.alloc b5'.size _
    have q6 : (w5.alloc (.cells (madeCells #[.slice none 0 0] m) 35)).heap.size = B + 1 := by rw [World.size_alloc, hB]
    rw [toList_madeCells_one, hB] at O6
    rw [hB] at hmk
    obtain ⟨w6, hw6⟩ : ∃ w6, w5.alloc (.cells (madeCells #[.slice none 0 0] m) 35) = w6 := ⟨_, rfl⟩
    rw [hw6] at hmk O6 b6 q6
    have R6 : Hid (RowsL w6 B w6.heap.size (.slice (some ⟨B, 0, none⟩) m m) (gridP m m (tmF yss m) 0)) := by
      unfold Hid
      rw [gridP_zero]
      exact RowsL.nils O6 (fun k e => by simp only [Value.ownBlock, Option.some.injEq] at e; omega) (Nat.le_refl _)
    have B6 := Lib.hid b6
    have z6 : B ≤ w6.heap.size := by omega
    clear b5 b5' O6 b6 q6 hw6 hB
    go_wp2
    clear hmk o5
    go_loopw [29] (fun i wr => ∃ j : Nat, j ≤ m ∧ i = .int .i64 j ∧ Hid (RowsL wr B wr.heap.size (.slice (some ⟨B, 0, none⟩) m m) (gridP m m (tmF yss m) j)) ∧ Hid (Below w.heap.size w wr) ∧ B ≤ wr.heap.size) (fun i _ => m - (intOf i).toNat)
    case atStart => exact ⟨0, by omega, rfl, R6, B6, z6⟩
    case round =>
      obtain ⟨j, hj, rfl, hR, hBl, hz⟩ := hrel
      by_cases c : j < m
      · have k1 : decide (j < m) = true := by simpa using c
        have k1' : decide ((j : Int) < (m : Int)) = true := decide_eq_true (by omega)
        have wx3 := IntWalk.i64_in ((j : Int) + 1) (by omega)
        have j0 : (0 : Int) ≤ (j : Int) := by omega
        have j1 : (j : Int) < (m : Int) := by omega
        have sc := SC.out j c
        have gs := Lib.hid (GS.out j c)
        have gl := GL.out j (by omega)
        have HC := Lib.hid (HS.out wr hBl.out ((j : Nat) : Int) (by unfold I64; omega))
        rw [sc.1, sc.2] at HC
        obtain ⟨R, hRR⟩ : ∃ R, (List.range m).map (tmF yss m j) = R := ⟨_, rfl⟩
        rw [hRR] at HC gs
        clear sc hRR
        obtain ⟨wc, rfl⟩ : ∃ wc : World, wc = wr := ⟨_, rfl⟩
        go_wp2_with fail
        refine HC.out.mono ?_
        rintro e w7 ⟨r, rfl, i7, b7⟩
        have s7 := b7.size
        have ri : ∃ ra rl rc, r = .slice ra rl rc := by
          obtain ⟨ra, rc, e⟩ := Ints.len_eq i7
          exact ⟨_, _, _, e⟩
        obtain ⟨ra, rl, rc, rfl⟩ := ri
        obtain ⟨g0, c0, e0, ⟨old, ho⟩, hf, -, -, hp⟩ := RowsL.put (hR.out.below b7 (Nat.le_refl _)) (j := j) (by rw [gl]; exact c) (by omega) i7
        simp only [Value.slice.injEq, Option.some.injEq, Addr.mk.injEq] at e0
        obtain ⟨⟨rfl, -⟩, -⟩ := e0
        rw [gs.out] at hp
        have z8 : (w7.setCell ⟨B, j, none⟩ (.slice ra rl rc)).heap.size = w7.heap.size := by simp [World.setCell]
        rw [← z8] at hp
        have R8 := Lib.hid hp
        have B8 : Hid (Below w.heap.size w (w7.setCell ⟨B, j, none⟩ (.slice ra rl rc))) := (t_chain hBl.out b7).setCell (p := ⟨B, j, none⟩) hwB _
        have zz8 : B ≤ (w7.setCell ⟨B, j, none⟩ (.slice ra rl rc)).heap.size := by omega
        clear hp b7 i7 z8
        go_wp2
        go_roundw
        case rel => exact ⟨j + 1, by omega, by go_num, R8, B8, zz8⟩
        case measure => simp [intOf]; omega
      · have k1 : decide (j < m) = false := by simpa using c
        have k1' : decide ((j : Int) < (m : Int)) = false := decide_eq_false (by omega)
        obtain rfl : j = m := by omega
        have RR := hR.out.mono (B' := w.heap.size) hwB (Nat.le_refl _) (Nat.le_refl _)
        rw [GA.out] at RR
        have R9 := Lib.hid RR
        clear RR
        go_wp2
        go_ret2
        exact ⟨_, by rw [V.out.2]; rfl, by rw [V.out.1]; exact R9.out, hBl.out⟩
end Go.Proofs.Ytkonddifmonkcaa
