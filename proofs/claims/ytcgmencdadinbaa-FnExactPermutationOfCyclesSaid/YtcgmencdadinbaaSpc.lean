/- PermutationOfCycles: the model. -/
import Derived.Test.YtcgmencdadinbaaPoc
namespace Go.Proofs.Ytcgmencdadinbaa
open Go.RowKit
set_option linter.unusedVariables false

set_option maxRecDepth 100000 in
set_option maxHeartbeats 4000000 in
theorem sPermutationOfCycles (n : Int) (cs : List (List Int)) (hn : I64 n) (hcs : SmallLL cs) (W : World) (v : Value) (hv : RowsAt W v cs) :
    Calls Try.prog 37 #[.int .i64 n, v] W fun e w' => ∃ r, e = .returned (.tuple #[r, .int .i64 (PermutationOfCycles_1 n cs)]) ∧ IntsAt w' r (PermutationOfCycles_0 n cs) ∧ Below W.heap.size W w' := by
  by_cases hr : 0 ≤ n ∧ n ≤ 32
  · obtain ⟨m, rfl⟩ : ∃ m : Nat, n = m := ⟨n.toNat, by omega⟩
    have m32 : m ≤ 32 := by omega
    have HI := Lib.hid (fun W : World => in_yes (m : Int) 0 32 W hr.1 hr.2)
    have HO := Lib.hid (fun W : World => sOne W m (by omega))
    have XI : Hid (∀ j, j < cs.length → ∀ x ∈ cs.getD j [], I64 x) := fun j hj x hx => hcs.2 _ (by rw [List.getD_eq_getElem?_getD, List.getElem?_eq_getElem hj]; exact List.getElem_mem hj) x hx
    have VN : Hid (poc m [] (oneL m) cs = none → PermutationOfCycles_0 m cs = [] ∧ PermutationOfCycles_1 m cs = 2) := fun e => Poc_none m32 e
    have VS : Hid (∀ r, poc m [] (oneL m) cs = some r → PermutationOfCycles_0 m cs = r ∧ PermutationOfCycles_1 m cs = 0) := fun r e => Poc_some m32 e
    have PN : Hid (∀ S out j, cs.length ≤ j → poc m S out (cs.drop j) = some out) := fun S out j h => poc_nil m S out h
    have PE : Hid (∀ S out j, j < cs.length → (cs.getD j []).length = 0 → poc m S out (cs.drop j) = none) := fun S out j h h0 => poc_empty h h0
    have PB : Hid (∀ S out j, j < cs.length → okC m S (cs.getD j []) = false → poc m S out (cs.drop j) = none) := fun S out j h h0 => poc_bad h h0
    have PG : Hid (∀ S out j, j < cs.length → (cs.getD j []).length ≠ 0 → okC m S (cs.getD j []) = true → poc m S out (cs.drop j) = poc m (S ++ cs.getD j []) (asg out (cs.getD j []) (cs.getD j []).length) (cs.drop (j + 1))) := fun S out j h h0 h1 => poc_good h h0 h1
    obtain ⟨a, cap, rfl, hc⟩ := hv.full
    have q63 : cs.length ≤ 1048576 := by have := hcs.1; omega
    have TL : Hid (∀ j, j < cs.length → (cs.getD j []).length ≤ 1048576) := fun j hj => by
      have := tot_mem cs (cs.getD j []) (by rw [List.getD_eq_getElem?_getD, List.getElem?_eq_getElem hj]; exact List.getElem_mem hj)
      have := hcs.1; omega
    have TD : Hid (∀ j, j < cs.length → tot (cs.drop j) = (cs.getD j []).length + tot (cs.drop (j + 1))) := fun j hj => by rw [dropL hj, tot_cons]
    have T0 : tot (cs.drop 0) ≤ 1048576 := by have := hcs.1; simp only [List.drop_zero]; omega
    obtain ⟨q, hq⟩ : ∃ q, cs.length = q := ⟨_, rfl⟩
    rw [hq] at PN PE PB PG hc q63 TL XI TD ⊢
    have HC := Lib.hid hc
    clear hc hv hr hq
    go_enter Try.func37, Try.ntmps37
    go_wp2_with (go_at_call 57; refine (HI.out _).mono ?_; rintro e w' ⟨rfl, rfl⟩)
    refine (HO.out _).mono ?_
    rintro e w1 ⟨r, rfl, i1, b1⟩
    have L0 := oneL_length m
    obtain ⟨out0, ho⟩ : ∃ o, oneL m = o := ⟨_, rfl⟩
    rw [ho] at i1 L0 VN VS
    have I1 := Lib.hid i1
    have B1 := Lib.hid b1
    have s1 := b1.size
    have RS : Hid (0 < m → ∃ g cap, r = .slice (some ⟨g, 0, none⟩) m cap ∧ W.heap.size ≤ g ∧ g < w1.heap.size) := fun h => by
      obtain ⟨g, cap, e⟩ := i1.slot (by omega)
      rw [L0] at e
      subst e
      exact ⟨g, cap, rfl, World.ownsRow.lt i1 g rfl⟩
    clear i1 b1 ho
    go_wp2
    obtain ⟨wo, hwo⟩ : ∃ wo, w1.alloc (.cells #[] 2) = wo := ⟨_, rfl⟩
    obtain ⟨s, hs⟩ : ∃ s, w1.heap.size = s := ⟨_, rfl⟩
    have I0 : Hid (Ints wo s (.slice (some ⟨s, 0, none⟩) 0 0) []) := by rw [← hwo, ← hs]; exact World.ownsRow_made w1 #[] 0 (Nat.le_refl _) (by decide) rfl
    have bo : Below w1.heap.size w1 wo := by rw [← hwo]; exact (Below.refl _ _).alloc (Nat.le_refl _) _
    have BO : Hid (Below W.heap.size W wo) := B1.out.trans (bo.mono s1)
    have IO : Hid (Ints wo W.heap.size r out0) := I1.out.below bo (Nat.le_refl _)
    have SO : s ≤ wo.heap.size := by have := bo.size; omega
    obtain ⟨B, hB⟩ : ∃ B, W.heap.size = B := ⟨_, rfl⟩
    rw [hwo, hs]
    rw [hs] at RS s1
    rw [hB] at BO IO HC RS s1
    have HE := Lib.hid hB
    have P0 : Hid (poc m [] out0 (cs.drop 0) = poc m [] out0 cs) := rfl
    clear hwo hB hs bo
    go_loopw [7, 8] (fun sv i wr => ∃ (j : Nat) (S out : List Int), j ≤ q ∧ i = .int .i64 j ∧ Hid (poc m S out (cs.drop j) = poc m [] out0 cs) ∧ out.length = m ∧ S.length + tot (cs.drop j) ≤ 1048576 ∧ Hid (Ints wr B r out) ∧ Hid (Ints wr s sv S) ∧ s ≤ wr.heap.size ∧ Hid (Below B W wr)) (fun _ i _ => q - (intOf i).toNat)
    case atStart => exact ⟨0, [], out0, by omega, rfl, P0, L0, by simp only [List.length_nil]; omega, IO, I0, SO, BO⟩
    case round =>
      obtain ⟨j, S, out, hj, rfl, hP, hlen, hSl, hI, hA, sw, hBl⟩ := hrel
      by_cases c : j < q
      · have k1 : decide (j < q) = true := by simpa using c
        have k1' : decide ((j : Int) < (q : Int)) = true := decide_eq_true (by omega)
        obtain ⟨g, off, b, cc, rfl, hg, cj, hrow⟩ := HC.out j c
        have j0 : (0 : Int) ≤ (j : Int) := by omega
        have j1 : (j : Int) < (q : Int) := by omega
        have w3 := IntWalk.i64_in ((j : Int) + 1) (by omega)
        have lC := TL.out j c
        have xI := XI.out j c
        have td := TD.out j c
        obtain ⟨C, hC⟩ : ∃ C, cs.getD j [] = C := ⟨_, rfl⟩
        have PEj := Lib.hid (PE.out S out j c)
        have PBj := Lib.hid (PB.out S out j c)
        have PGj := Lib.hid (PG.out S out j c)
        rw [hC] at cj hrow lC PEj PBj PGj xI td
        have XC := Lib.hid xI
        have cx : wr.cell? ⟨g, off + j, none⟩ = some (.slice b C.length cc) := by rw [hBl.out.cell (p := ⟨g, off + j, none⟩) hg, cj]
        have HR := Lib.hid hrow
        obtain ⟨L, hL⟩ : ∃ L, C.length = L := ⟨_, rfl⟩
        rw [hL] at cx HR lC PEj PGj td
        have OKS : Hid (∀ S' k, k < L → okC m S' (C.drop k) = (decide (0 ≤ C.getD k 0 ∧ C.getD k 0 ≤ (m : Int) - 1) && (!decide (C.getD k 0 ∈ S') && okC m (S' ++ [C.getD k 0]) (C.drop (k + 1))))) := fun S' k hk => okC_step (by omega)
        have OKE : Hid (∀ S', okC m S' (C.drop L) = true) := fun S' => by rw [← hL]; exact okC_end
        have OKR : Hid (okC m S C = true → ∀ k, k < L → 0 ≤ C.getD k 0 ∧ C.getD k 0 < m) := fun h k hk => okC_range C S h k (by omega)
        have TS : Hid (∀ k, k < L → S ++ C.take (k + 1) = (S ++ C.take k) ++ [C.getD k 0]) := fun k hk => takeI_snoc (by omega)
        have TL2 : Hid (∀ k, k ≤ L → (S ++ C.take k).length = S.length + k) := fun k hk => by rw [List.length_append, List.length_take]; omega
        have TE : Hid (S ++ C.take L = S ++ C) := by unfold Hid; rw [← hL, List.take_length]
        have AS : Hid (∀ k, asg out C (k + 1) = (asg out C k).set (C.getD k 0).toNat (C.getD ((k + 1) % L) 0)) := fun k => by rw [asg, hL]
        have AL : Hid (∀ k, (asg out C k).length = m) := fun k => by rw [asg_length, hlen]
        have A0 : Hid (asg out C 0 = out) := rfl
        have IX : Hid (∀ k, k < L → I64 (C.getD k 0)) := fun k hk => xI _ (by rw [List.getD_eq_getElem?_getD, List.getElem?_eq_getElem (by omega : k < C.length)]; exact List.getElem_mem _)
        clear hC cj hrow hL xI XC
        by_cases e0 : L = 0
        · subst e0
          have V := Lib.hid (VN.out (by rw [← hP.out]; exact PEj.out rfl))
          go_wp2
          go_ret2
          exact ⟨_, by rw [V.out.2]; rfl, by rw [V.out.1]; exact nilAt _, by rw [HE.out]; exact hBl.out⟩
        have z1 : ((L : Int) == 0) = false := by simp; omega
        have z1' : (L == 0) = false := by simp; omega
        have hS63 : S.length + L ≤ 1048576 := by omega
        have hS64 : S.length + L + tot (cs.drop (j + 1)) ≤ 1048576 := by omega
        clear td hSl
        obtain ⟨wc, rfl⟩ : ∃ wc : World, wc = wr := ⟨_, rfl⟩
        obtain ⟨sv, rfl⟩ : ∃ sv : Value, sv = u7 := ⟨_, rfl⟩
        go_wp2
        go_loopw [7, 10] (fun tv i wi => ∃ (k : Nat), k ≤ L ∧ i = .int .i64 k ∧ Hid (okC m (S ++ C.take k) (C.drop k) = okC m S C) ∧ Hid (Ints wi B r out) ∧ Hid (Ints wi s tv (S ++ C.take k)) ∧ s ≤ wi.heap.size ∧ Hid (Below B W wi)) (fun _ i _ => L - (intOf i).toNat)
        case atStart => exact ⟨0, by omega, rfl, by unfold Hid; rw [List.take_zero, List.append_nil]; rfl, hI, by unfold Hid; rw [List.take_zero, List.append_nil]; exact hA.out, sw, hBl⟩
        case round =>
          obtain ⟨k, hk, rfl, hO, hJ, hS, sw2, hBw⟩ := hrel
          by_cases d : k < L
          · have k2 : decide (k < L) = true := by simpa using d
            have k2' : decide ((k : Int) < (L : Int)) = true := decide_eq_true (by omega)
            obtain ⟨g', off', rfl, hg', ck⟩ := HR.out k d
            have OK := Lib.hid (OKS.out (S ++ C.take k) k d)
            have TK := Lib.hid (TS.out k d)
            have T2 := TL2.out k hk
            have xi := IX.out k d
            obtain ⟨x, hx⟩ : ∃ x, C.getD k 0 = x := ⟨_, rfl⟩
            rw [hx] at ck OK TK xi
            unfold I64 at xi
            have cx2 : wr.cell? ⟨g', off' + k, none⟩ = some (.int .i64 x) := by rw [hBw.out.cell (p := ⟨g', off' + k, none⟩) hg', ck]
            have i0 : (0 : Int) ≤ (k : Int) := by omega
            have i1 : (k : Int) < (L : Int) := by omega
            have w6 := IntWalk.i64_in ((k : Int) + 1) (by omega)
            clear hx ck
            have BAD : Hid (okC m (S ++ C.take k) (C.drop k) = false → PermutationOfCycles_0 m cs = [] ∧ PermutationOfCycles_1 m cs = 2) := fun e => VN.out (by rw [← hP.out]; exact PBj.out (by rw [← hO.out]; exact e))
            by_cases c1 : 0 ≤ x ∧ x ≤ (m : Int) - 1
            · have HN := Lib.hid (fun W : World => in_yes x 0 ((m : Int) - 1) W c1.1 c1.2)
              have HH := Lib.hid (shas wr _ _ x hS.out.at)
              obtain ⟨bb, hb⟩ : ∃ bb, decide (x ∈ S ++ C.take k) = bb := ⟨_, rfl⟩
              rw [hb] at HH
              cases bb with
              | true =>
                have V := Lib.hid (BAD.out (by rw [OK.out, hb]; simp))
                clear hb c1
                go_wp2_with (first | (go_at_call 57; refine (HN.out _).mono ?_; rintro e w' ⟨rfl, rfl⟩) | (go_at_call 67; refine HH.out.mono ?_; rintro e w' ⟨rfl, rfl⟩))
                go_ret2
                exact ⟨_, by rw [V.out.2]; rfl, by rw [V.out.1]; exact nilAt _, by rw [HE.out]; exact hBw.out⟩
              | false =>
                have m0 : 0 < m := by omega
                have O2 : Hid (okC m (S ++ C.take (k + 1)) (C.drop (k + 1)) = okC m S C) := by
                  unfold Hid
                  rw [← hO.out, OK.out, TK.out, decide_eq_true c1, hb]; rfl
                clear hb c1
                go_wp2_with (first | (go_at_call 57; refine (HN.out _).mono ?_; rintro e w' ⟨rfl, rfl⟩) | (go_at_call 67; refine HH.out.mono ?_; rintro e w' ⟨rfl, rfl⟩) | (at_builtin; refine wpList_push wr (by rfl) _ _ (by rfl) s _ _ (by rfl) hS.out x _ (by rfl) (by rw [T2]; omega) sw2 ?_; intro v' w6' hn hb; have HN' := Lib.hid hn; have HB2 := Lib.hid hb; clear hn hb))
                have z6 := HB2.out.size
                go_roundw
                case rel => exact ⟨k + 1, by omega, by go_num, O2, ownsRow_of_block hJ.out (fun z e => HB2.out.block z (by
                    obtain ⟨gp, cp, e2, gB, gs⟩ := RS.out m0
                    rw [e2] at e
                    simp only [Value.ownBlock, Option.some.injEq] at e
                    omega)), by unfold Hid; rw [TK.out]; exact HN'.out, by omega, hBw.out.trans (HB2.out.mono (by omega))⟩
                case measure => simp [intOf]; omega
            · have HN := Lib.hid (fun W : World => in_no x 0 ((m : Int) - 1) W (by omega))
              have V := Lib.hid (BAD.out (by rw [OK.out, decide_eq_false c1]; rfl))
              clear c1
              go_wp2_with (go_at_call 57; refine (HN.out _).mono ?_; rintro e w' ⟨rfl, rfl⟩)
              go_ret2
              exact ⟨_, by rw [V.out.2]; rfl, by rw [V.out.1]; exact nilAt _, by rw [HE.out]; exact hBw.out⟩
          · have k2 : decide (k < L) = false := by simpa using d
            have k2' : decide ((k : Int) < (L : Int)) = false := decide_eq_false (by omega)
            obtain rfl : k = L := by omega
            have OKT := hO.out
            rw [OKE.out] at OKT
            have GO := Lib.hid (PGj.out e0 OKT.symm)
            have RR := Lib.hid (OKR.out OKT.symm)
            clear OKT
            rw [TE.out] at hS
            obtain ⟨we, rfl⟩ : ∃ we : World, we = wr := ⟨_, rfl⟩
            obtain ⟨tv, rfl⟩ : ∃ tv : Value, tv = u7 := ⟨_, rfl⟩
            go_wp2
            go_loopw [11] (fun i wi => ∃ (e : Nat), e ≤ k ∧ i = .int .i64 e ∧ Hid (Ints wi B r (asg out C e)) ∧ Hid (Ints wi s tv (S ++ C)) ∧ s ≤ wi.heap.size ∧ Hid (Below B W wi)) (fun i _ => k - (intOf i).toNat)
            case atStart => exact ⟨0, by omega, rfl, hJ, hS, sw2, hBw⟩
            case round =>
              obtain ⟨e, hd, rfl, hJ2, hS2, sw3, hBw2⟩ := hrel
              by_cases dd : e < k
              · have k2 : decide (e < k) = true := by simpa using dd
                have k2' : decide ((e : Int) < (k : Int)) = true := decide_eq_true (by omega)
                obtain ⟨g', off', rfl, hg', ck⟩ := HR.out e dd
                obtain ⟨x0, x1⟩ := RR.out e dd
                have AK := Lib.hid (AS.out e)
                have lk : (e + 1) % k < k := Nat.mod_lt _ (by omega)
                obtain ⟨g2, off2, e2, hg2, ck2⟩ := HR.out ((e + 1) % k) lk
                simp only [Option.some.injEq, Addr.mk.injEq, and_true] at e2
                obtain ⟨rfl, rfl⟩ := e2
                obtain ⟨x, hx⟩ : ∃ x, C.getD e 0 = x := ⟨_, rfl⟩
                obtain ⟨y, hy⟩ : ∃ y, C.getD ((e + 1) % k) 0 = y := ⟨_, rfl⟩
                rw [hx] at ck x0 x1 AK
                rw [hy] at ck2 AK
                obtain ⟨t, rfl⟩ : ∃ t : Nat, x = t := ⟨x.toNat, by omega⟩
                have cx2 : wr.cell? ⟨g', off' + e, none⟩ = some (.int .i64 t) := by rw [hBw2.out.cell (p := ⟨g', off' + e, none⟩) hg', ck]
                have cy2 : wr.cell? ⟨g', off' + (e + 1) % k, none⟩ = some (.int .i64 y) := by rw [hBw2.out.cell (p := ⟨g', off' + (e + 1) % k, none⟩) hg', ck2]
                obtain ⟨gp, cp, rfl, gB, gs⟩ := RS.out (by omega)
                have Al := AL.out e
                obtain ⟨⟨old, hold⟩, hfr⟩ := hJ2.out.hasCell Al (t := t) (by omega)
                have i0 : (0 : Int) ≤ (e : Int) := by omega
                have i1 : (e : Int) < (k : Int) := by omega
                have w6 := IntWalk.i64_in ((e : Int) + 1) (by omega)
                have m0 : (0 : Int) ≤ ((e : Int) + 1) % (k : Int) := Int.emod_nonneg _ (by omega)
                have m1 : ((e : Int) + 1) % (k : Int) < (k : Int) := Int.emod_lt_of_pos _ (by omega)
                have t0 : (0 : Int) ≤ (t : Int) := by omega
                have t1 : (t : Int) < (m : Int) := by omega
                have F1 : Hid (Ints (wr.setCell ⟨gp, t, none⟩ (.int .i64 y)) B (.slice (some ⟨gp, 0, none⟩) m cp) (asg out C (e + 1))) := by
                  have := hJ2.out.store (t := t) (y := y) Al
                  rw [AK.out, Int.toNat_natCast]
                  exact this
                have F2 : Hid (Ints (wr.setCell ⟨gp, t, none⟩ (.int .i64 y)) s tv (S ++ C)) := hS2.out.setOther gs
                have F3 : Hid (Below B W (wr.setCell ⟨gp, t, none⟩ (.int .i64 y)).drew) := by
                  have h := hBw2.out.setCell (p := ⟨gp, t, none⟩) gB (.int .i64 y)
                  exact ⟨h.os, h.tape, h.output, h.size, h.block⟩
                have F4 : s ≤ (wr.setCell ⟨gp, t, none⟩ (.int .i64 y)).drew.heap.size := by simp only [World.setCell, World.drew]; simpa [World.setCell] using sw3
                clear hx hy ck ck2 hg' hg2
                go_wp2
                go_region
                go_wp2
                go_roundw
                case rel => exact ⟨e + 1, by omega, by go_num, F1, F2, F4, F3⟩
                case measure => simp [intOf]; omega
              · have k2 : decide (e < k) = false := by simpa using dd
                have k2' : decide ((e : Int) < (k : Int)) = false := decide_eq_false (by omega)
                obtain rfl : e = k := by omega
                go_wp2
                go_roundw
                case rel => exact ⟨j + 1, S ++ C, asg out C e, by omega, by go_num, by unfold Hid; rw [← GO.out]; exact hP.out, AL.out _, by rw [← TE.out, TL2.out e (Nat.le_refl _)]; omega, hJ2, hS2, sw3, hBw2⟩
                case measure => simp [intOf]; omega
      · have k1 : decide (j < q) = false := by simpa using c
        have k1' : decide ((j : Int) < (q : Int)) = false := decide_eq_false (by omega)
        obtain rfl : j = q := by omega
        have V := Lib.hid (VS.out out (by rw [← hP.out]; exact PN.out S out j (Nat.le_refl _)))
        go_wp2
        go_ret2
        exact ⟨_, by rw [V.out.2]; rfl, by rw [V.out.1]; exact hI.out.at, by rw [HE.out]; exact hBl.out⟩
  · have V := Lib.hid (Poc_out (cs := cs) hr)
    have HI := Lib.hid (fun W : World => in_no n 0 32 W (by omega))
    clear hr
    go_enter Try.func37, Try.ntmps37
    go_wp2_with (go_at_call 57; refine (HI.out _).mono ?_; rintro e w' ⟨rfl, rfl⟩)
    go_ret2
    exact ⟨_, by rw [V.out.2]; rfl, by rw [V.out.1]; exact nilAt _, Below.refl _ _⟩
end Go.Proofs.Ytcgmencdadinbaa
