/- PermutationOfCycles: the program. -/
import Derived.Test.YtcgmencdadinbaaPoc
import Derived.Test.YtcgmencdadinbaaIo
namespace Go.Proofs.Ytcgmencdadinbaa
open Go.RowKit
set_option linter.unusedVariables false

set_option maxRecDepth 100000 in
set_option maxHeartbeats 4000000 in
theorem iPermutationOfCycles (n : Int) (cs : List (List Int)) (hn : I64 n) (hcs : SmallLL cs) (W : World) (v : Value) (hv : RowsAt W v cs) :
    Calls Try.prog 39 #[.int .i64 n, v] W fun e w' => ∃ r, e = .returned (.tuple #[r, .int .i64 (PermutationOfCycles_1 n cs)]) ∧ Ints w' W.heap.size r (PermutationOfCycles_0 n cs) ∧ Below W.heap.size W w' := by
  have HI := Lib.hid (iIdentityPermutation n hn W)
  by_cases hr : 0 ≤ n ∧ n ≤ 32
  · obtain ⟨m, rfl⟩ : ∃ m : Nat, n = m := ⟨n.toNat, by omega⟩
    have ID := Identity_in hr
    rw [Int.toNat_natCast] at ID
    rw [ID.1, ID.2] at HI
    have m32 : m ≤ 32 := by omega
    have VN : Hid (poc m [] (oneL m) cs = none → PermutationOfCycles_0 m cs = [] ∧ PermutationOfCycles_1 m cs = 2) := fun e => Poc_none m32 e
    have VS : Hid (∀ r, poc m [] (oneL m) cs = some r → PermutationOfCycles_0 m cs = r ∧ PermutationOfCycles_1 m cs = 0) := fun r e => Poc_some m32 e
    have PN : Hid (∀ S out j, cs.length ≤ j → poc m S out (cs.drop j) = some out) := fun S out j h => poc_nil m S out h
    have PE : Hid (∀ S out j, j < cs.length → (cs.getD j []).length = 0 → poc m S out (cs.drop j) = none) := fun S out j h h0 => poc_empty h h0
    have PB : Hid (∀ S out j, j < cs.length → okC m S (cs.getD j []) = false → poc m S out (cs.drop j) = none) := fun S out j h h0 => poc_bad h h0
    have PG : Hid (∀ S out j, j < cs.length → (cs.getD j []).length ≠ 0 → okC m S (cs.getD j []) = true → poc m S out (cs.drop j) = poc m (S ++ cs.getD j []) (asg out (cs.getD j []) (cs.getD j []).length) (cs.drop (j + 1))) := fun S out j h h0 h1 => poc_good h h0 h1
    obtain ⟨a, cap, rfl, hc⟩ := hv.full
    have q63 : cs.length ≤ 1048576 := by have := hcs.1; omega
    have TL : Hid (∀ j, j < cs.length → (cs.getD j []).length ≤ 1048576) := fun j hj => by
      have := tot_mem cs (cs.getD j []) (by rw [List.getD_eq_getElem?_getD, List.getElem?_eq_getElem hj]; exact List.getElem_mem hj)
      have := hcs.1; omega
    obtain ⟨q, hq⟩ : ∃ q, cs.length = q := ⟨_, rfl⟩
    rw [hq] at PN PE PB PG hc q63 TL ⊢
    have HC := Lib.hid hc
    clear hc hv hr hq ID
    go_enter Try.func39, Try.ntmps39
    go_wp2_with fail
    refine HI.out.mono ?_
    rintro e w1 ⟨r, rfl, i1, b1⟩
    have L0 := oneL_length m
    obtain ⟨out0, ho⟩ : ∃ o, oneL m = o := ⟨_, rfl⟩
    rw [ho] at i1 L0 VN VS
    have I1 := Lib.hid i1
    have B1 := Lib.hid b1
    have s1 := b1.size
    have RS : Hid (0 < m → ∃ g cap, r = .slice (some ⟨g, 0, none⟩) m cap ∧ W.heap.size ≤ g ∧ g < w1.heap.size) := fun h => by
      obtain ⟨g, cap, e⟩ := i1.slot (by omega)
      rw [L0] at e
      subst e
      exact ⟨g, cap, rfl, World.ownsRow.lt i1 g rfl⟩
    have RB : Hid (∀ k, r.ownBlock = some k → W.heap.size ≤ k ∧ k < w1.heap.size) := fun k e => World.ownsRow.lt i1 k e
    clear i1 b1 ho
    go_wp2
    generalize hwo : w1.alloc _ = wo
    obtain ⟨s, hs⟩ : ∃ s, w1.heap.size = s := ⟨_, rfl⟩
    have BA : Hid (Ba wo 54 s 32 (inL [])) := by
      unfold Hid Ba
      rw [← hwo, ← hs, heap_alloc_new, inL_nil]; rfl
    have bo : Below w1.heap.size w1 wo := by rw [← hwo]; exact (Below.refl _ _).alloc (Nat.le_refl _) _
    have BO : Hid (Below W.heap.size W wo) := B1.out.trans (bo.mono s1)
    have IO : Hid (Ints wo W.heap.size r out0) := I1.out.below bo (Nat.le_refl _)
    obtain ⟨B, hB⟩ : ∃ B, W.heap.size = B := ⟨_, rfl⟩
    rw [hs] at RS RB s1 ⊢
    rw [hB] at BO IO HC RS RB s1
    have HE := Lib.hid hB
    have P0 : Hid (poc m [] out0 (cs.drop 0) = poc m [] out0 cs) := rfl
    clear hwo hB hs bo
    go_loopw [23] (fun i wr => ∃ (j : Nat) (S out : List Int), j ≤ q ∧ i = .int .i64 j ∧ Hid (poc m S out (cs.drop j) = poc m [] out0 cs) ∧ out.length = m ∧ Hid (Ints wr B r out) ∧ Hid (Ba wr 54 s 32 (inL S)) ∧ Hid (Below B W wr)) (fun i _ => q - (intOf i).toNat)
    case atStart => exact ⟨0, [], out0, by omega, rfl, P0, L0, IO, BA, BO⟩
    case round =>
      obtain ⟨j, S, out, hj, rfl, hP, hlen, hI, hA, hBl⟩ := hrel
      by_cases c : j < q
      · have k1 : decide (j < q) = true := by simpa using c
        obtain ⟨g, off, b, cc, rfl, hg, cj, hrow⟩ := HC.out j c
        have j0 : (0 : Int) ≤ (j : Int) := by omega
        have j1 : (j : Int) < (q : Int) := by omega
        have w3 := IntWalk.i64_in ((j : Int) + 1) (by omega)
        have lC := TL.out j c
        obtain ⟨C, hC⟩ : ∃ C, cs.getD j [] = C := ⟨_, rfl⟩
        have PEj := Lib.hid (PE.out S out j c)
        have PBj := Lib.hid (PB.out S out j c)
        have PGj := Lib.hid (PG.out S out j c)
        rw [hC] at cj hrow lC PEj PBj PGj
        have cx : wr.cell? ⟨g, off + j, none⟩ = some (.slice b C.length cc) := by rw [hBl.out.cell (p := ⟨g, off + j, none⟩) hg, cj]
        have HR := Lib.hid hrow
        obtain ⟨L, hL⟩ : ∃ L, C.length = L := ⟨_, rfl⟩
        rw [hL] at cx HR lC PEj PGj
        have OKS : Hid (∀ S' k, k < L → okC m S' (C.drop k) = (decide (0 ≤ C.getD k 0 ∧ C.getD k 0 ≤ (m : Int) - 1) && (!decide (C.getD k 0 ∈ S') && okC m (S' ++ [C.getD k 0]) (C.drop (k + 1))))) := fun S' k hk => okC_step (by omega)
        have OKE : Hid (∀ S', okC m S' (C.drop L) = true) := fun S' => by rw [← hL]; exact okC_end
        have TS : Hid (∀ k, k < L → S ++ C.take (k + 1) = (S ++ C.take k) ++ [C.getD k 0]) := fun k hk => takeI_snoc (by omega)
        have TE : Hid (S ++ C.take L = S ++ C) := by unfold Hid; rw [← hL, List.take_length]
        have AS : Hid (∀ k, asg out C (k + 1) = (asg out C k).set (C.getD k 0).toNat (C.getD ((k + 1) % L) 0)) := fun k => by rw [asg, hL]
        have AL : Hid (∀ k, (asg out C k).length = m) := fun k => by rw [asg_length, hlen]
        have A0 : Hid (asg out C 0 = out) := rfl
        have O0 : Hid (okC m S (C.drop 0) = okC m S C) := rfl
        clear hC cj hrow hL
        by_cases e0 : L = 0
        · subst e0
          have V := Lib.hid (VN.out (by rw [← hP.out]; exact PEj.out rfl))
          go_wp2
          go_ret2
          exact ⟨_, by rw [V.out.2]; rfl, by rw [V.out.1]; exact nilI _ _, by rw [HE.out]; exact hBl.out⟩
        have z1 : ((L : Int) == 0) = false := by simp; omega
        have z1' : (L == 0) = false := by simp; omega
        obtain ⟨wc, rfl⟩ : ∃ wc : World, wc = wr := ⟨_, rfl⟩
        go_wp2
        go_loopw [32] (fun i wi => ∃ (k : Nat), k ≤ L ∧ i = .int .i64 k ∧ Hid (okC m (S ++ C.take k) (C.drop k) = okC m S C) ∧ Hid (Ints wi B r (asg out C k)) ∧ Hid (Ba wi 54 s 32 (inL (S ++ C.take k))) ∧ Hid (Below B W wi)) (fun i _ => L - (intOf i).toNat)
        case atStart => exact ⟨0, by omega, rfl, by unfold Hid; rw [List.take_zero, List.append_nil]; rfl, hI, by unfold Hid; rw [List.take_zero, List.append_nil]; exact hA.out, hBl⟩
        case round =>
          obtain ⟨k, hk, rfl, hO, hJ, hS, hBw⟩ := hrel
          by_cases d : k < L
          · have k2 : decide (k < L) = true := by simpa using d
            obtain ⟨g', off', rfl, hg', ck⟩ := HR.out k d
            have OK := Lib.hid (OKS.out (S ++ C.take k) k d)
            have TK := Lib.hid (TS.out k d)
            have AK := Lib.hid (AS.out k)
            have lk : (k + 1) % L < L := Nat.mod_lt _ (by omega)
            obtain ⟨g2, off2, e2, hg2, ck2⟩ := HR.out ((k + 1) % L) lk
            simp only [Option.some.injEq, Addr.mk.injEq, and_true] at e2
            obtain ⟨rfl, rfl⟩ := e2
            obtain ⟨x, hx⟩ : ∃ x, C.getD k 0 = x := ⟨_, rfl⟩
            obtain ⟨y, hy⟩ : ∃ y, C.getD ((k + 1) % L) 0 = y := ⟨_, rfl⟩
            rw [hx] at ck OK TK AK
            rw [hy] at ck2 AK
            have cx2 : wr.cell? ⟨g', off' + k, none⟩ = some (.int .i64 x) := by rw [hBw.out.cell (p := ⟨g', off' + k, none⟩) hg', ck]
            have cy2 : wr.cell? ⟨g', off' + (k + 1) % L, none⟩ = some (.int .i64 y) := by rw [hBw.out.cell (p := ⟨g', off' + (k + 1) % L, none⟩) hg', ck2]
            have i0 : (0 : Int) ≤ (k : Int) := by omega
            have i1 : (k : Int) < (L : Int) := by omega
            have w6 := IntWalk.i64_in ((k : Int) + 1) (by omega)
            clear hx hy ck ck2 hg2
            have BAD : Hid (okC m (S ++ C.take k) (C.drop k) = false → PermutationOfCycles_0 m cs = [] ∧ PermutationOfCycles_1 m cs = 2) := fun e => VN.out (by rw [← hP.out]; exact PBj.out (by rw [← hO.out]; exact e))
            by_cases c1 : x < 0
            · have g2 : decide (x < 0) = true := by simpa using c1
              have V := Lib.hid (BAD.out (by rw [OK.out, decide_eq_false (by omega)]; rfl))
              go_wp2
              go_ret2
              exact ⟨_, by rw [V.out.2]; rfl, by rw [V.out.1]; exact nilI _ _, by rw [HE.out]; exact hBw.out⟩
            · obtain ⟨t, rfl⟩ : ∃ t : Nat, x = t := ⟨x.toNat, by omega⟩
              have g2 : decide ((t : Int) < 0) = false := by simp
              clear c1
              by_cases c2 : m ≤ t
              · have g3 : decide ((m : Int) ≤ (t : Int)) = true := decide_eq_true (by omega)
                have g3' : decide (m ≤ t) = true := by simpa using c2
                have V := Lib.hid (BAD.out (by rw [OK.out, decide_eq_false (by omega)]; rfl))
                go_wp2
                go_ret2
                exact ⟨_, by rw [V.out.2]; rfl, by rw [V.out.1]; exact nilI _ _, by rw [HE.out]; exact hBw.out⟩
              · have g3 : decide ((m : Int) ≤ (t : Int)) = false := decide_eq_false (by omega)
                have g3' : decide (m ≤ t) = false := by simpa using c2
                have t0 : (0 : Int) ≤ (t : Int) := by omega
                have t1 : (t : Int) < 32 := by omega
                have ct := hS.out.cell t (by omega)
                obtain ⟨bb, hb⟩ : ∃ bb, inL (S ++ C.take k) t = bb := ⟨_, rfl⟩
                rw [hb] at ct
                cases bb with
                | true =>
                  have V := Lib.hid (BAD.out (by rw [OK.out, decide_eq_true (of_decide_eq_true hb)]; simp))
                  clear hb
                  go_wp2
                  go_ret2
                  exact ⟨_, by rw [V.out.2]; rfl, by rw [V.out.1]; exact nilI _ _, by rw [HE.out]; exact hBw.out⟩
                | false =>
                  have hnot : ¬ (t : Int) ∈ S ++ C.take k := of_decide_eq_false hb
                  have O2 : Hid (okC m (S ++ C.take (k + 1)) (C.drop (k + 1)) = okC m S C) := by
                    unfold Hid
                    rw [← hO.out, OK.out, TK.out, decide_eq_true (by omega), decide_eq_false hnot]; rfl
                  obtain ⟨gp, cp, rfl, gB, gs⟩ := RS.out (by omega)
                  have Al := AL.out k
                  have SP : Hid (Ba (wr.setCell ⟨s, t, none⟩ (.bool true)) 54 s 32 (inL (S ++ C.take (k + 1)))) := by
                    have := hS.out.set t true
                    rw [inL_snoc (x := (t : Int)) rfl, ← TK.out] at this
                    exact this
                  have JP : Hid (Ints (wr.setCell ⟨s, t, none⟩ (.bool true)) B (.slice (some ⟨gp, 0, none⟩) m cp) (asg out C k)) :=
                    ownsRow_of_block hJ.out (fun z e => Below.heap_setCell wr ⟨s, t, none⟩ _ z (by simp only [Value.ownBlock, Option.some.injEq] at e; show z ≠ s; omega))
                  have BP : Hid (Below B W (wr.setCell ⟨s, t, none⟩ (.bool true))) := hBw.out.setCell (by show B ≤ s; omega) _
                  have hf := hS.out.frozen t
                  have hnc := JP.out.hasCell Al (t := t) (by omega)
                  obtain ⟨⟨old, hold⟩, hfr⟩ := hnc
                  have gne : gp ≠ s := by omega
                  have FJ : Hid (Ints ((wr.setCell ⟨s, t, none⟩ (.bool true)).setCell ⟨gp, t, none⟩ (.int .i64 y)) B (.slice (some ⟨gp, 0, none⟩) m cp) (asg out C (k + 1))) := by
                    have := JP.out.store (t := t) (y := y) Al
                    rw [AK.out, Int.toNat_natCast]
                    exact this
                  have FS : Hid (Ba ((wr.setCell ⟨s, t, none⟩ (.bool true)).setCell ⟨gp, t, none⟩ (.int .i64 y)) 54 s 32 (inL (S ++ C.take (k + 1)))) :=
                    (Below.heap_setCell _ ⟨gp, t, none⟩ _ s (by show s ≠ gp; omega)).trans SP.out
                  have FB : Hid (Below B W ((wr.setCell ⟨s, t, none⟩ (.bool true)).setCell ⟨gp, t, none⟩ (.int .i64 y))) := BP.out.setCell gB _
                  have cy3 : (wr.setCell ⟨s, t, none⟩ (.bool true)).cell? ⟨g', off' + (k + 1) % L, none⟩ = some (.int .i64 y) := by
                    rw [← cy2]
                    exact World.cell?_of_block (Below.heap_setCell wr ⟨s, t, none⟩ _ g' (by show g' ≠ s; omega))
                  have tm0 : (t : Int) < (m : Int) := by omega
                  have m0 : (0 : Int) ≤ ((k : Int) + 1) % (L : Int) := Int.emod_nonneg _ (by omega)
                  have m1 : ((k : Int) + 1) % (L : Int) < (L : Int) := Int.emod_lt_of_pos _ (by omega)
                  clear hb hnot
                  go_wp2
                  go_roundw
                  case rel => exact ⟨k + 1, by omega, by go_num, O2, FJ, FS, FB⟩
                  case measure => simp [intOf]; omega
          · have k2 : decide (k < L) = false := by simpa using d
            obtain rfl : k = L := by omega
            have GO := Lib.hid (PGj.out e0 (by rw [← hO.out]; exact OKE.out _))
            go_wp2
            go_roundw
            case rel => exact ⟨j + 1, S ++ C, asg out C k, by omega, by go_num, by unfold Hid; rw [← GO.out]; exact hP.out, AL.out _, hJ, by have := hS.out; rw [TE.out] at this; exact this, hBw⟩
            case measure => simp [intOf]; omega
      · have k1 : decide (j < q) = false := by simpa using c
        obtain rfl : j = q := by omega
        have V := Lib.hid (VS.out out (by rw [← hP.out]; exact PN.out S out j (Nat.le_refl _)))
        go_wp2
        go_ret2
        exact ⟨_, by rw [V.out.2]; rfl, by rw [V.out.1, HE.out]; exact hI.out, by rw [HE.out]; exact hBl.out⟩
  · have V := Lib.hid (Poc_out (cs := cs) hr)
    have ID := Identity_out hr
    rw [ID.1, ID.2] at HI
    clear hr ID
    go_enter Try.func39, Try.ntmps39
    go_wp2_with fail
    refine HI.out.mono ?_
    rintro e w1 ⟨r, rfl, i1, b1⟩
    have B1 := Lib.hid b1
    clear i1 b1
    go_wp2
    go_ret2
    exact ⟨_, by rw [V.out.2]; rfl, by rw [V.out.1]; exact nilI _ _, B1.out⟩
end Go.Proofs.Ytcgmencdadinbaa
