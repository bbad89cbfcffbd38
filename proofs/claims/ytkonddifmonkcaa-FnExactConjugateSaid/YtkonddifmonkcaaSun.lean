/- UnrankPermutation: the model. -/
import Derived.Maps.AppendAt
import Derived.Test.YtkonddifmonkcaaUnm
import Derived.Test.YtkonddifmonkcaaSrk
import Derived.Test.YtkonddifmonkcaaPoc
import Derived.Test.YtkonddifmonkcaaRowp
namespace Go.Proofs.Ytkonddifmonkcaa
open Go.RowKit
set_option linter.unusedVariables false

theorem Ints.cells {w : World} {B g n cap : Nat} {xs : List Int} (h : Ints w B (.slice (some ⟨g, 0, none⟩) n cap) xs) (hn : xs.length = n) (j : Nat) (hj : j < n) : w.cell? ⟨g, j, none⟩ = some (.int .i64 (xs.getD j 0)) := by
  unfold Ints at h
  rw [hn] at h
  rw [h.cellAt j (by omega)]
  simp [List.getElem?_map, List.getElem?_eq_getElem (show j < xs.length by omega), List.getD]

theorem sunNums {d p cap F : Nat} (dl : d < p + 1) (hcap : p + 1 ≤ cap) (p12 : p ≤ 12) (Fp : 1 ≤ F) (dR : d ≤ 479001600) :
    wrap64 (d : Int) = (d : Int) ∧ ((F : Int) == 0) = false ∧ (F == 0) = false ∧ ¬ (F : Int) = 0 ∧ ¬ F = 0 ∧ ((p + 1 : Nat) : Int) - 1 = (p : Int) ∧ (0 : Int) ≤ (d : Int) ∧ (d : Int) < ((p + 1 : Nat) : Int) ∧ (d : Int) ≤ (cap : Int) ∧
    (d : Int) + 1 ≤ ((p + 1 : Nat) : Int) ∧ (d : Int) + 1 ≤ (cap : Int) ∧ (0 : Int) ≤ (d : Int) + 1 ∧ IntKind.i64.wrap ((d : Int) + 1) = (d : Int) + 1 ∧ IntKind.i64.wrap (((p + 1 : Nat) : Int) - 1) = ((p + 1 : Nat) : Int) - 1 ∧ decide ((0 : Int) < ((p + 1 : Nat) : Int)) = true ∧ decide (0 < p + 1) = true := by
  refine ⟨by unfold wrap64; omega, by simp; omega, by simp; omega, by omega, by omega, by omega, by omega, by omega, by omega, by omega, by omega, by omega, IntWalk.i64_in _ (by omega), IntWalk.i64_in _ (by omega), decide_eq_true (by omega), decide_eq_true (by omega)⟩

set_option maxRecDepth 100000 in
set_option maxHeartbeats 4000000 in
/-- The numbers with a rank, one after the other out of what is left. -/
theorem sUnr (m q : Nat) (hm : m ≤ 12) (hq : q < fct m) (W : World) :
    Calls Try.prog 79 #[.int .i64 m, .int .i64 q] W fun e w' => ∃ u, e = .returned u ∧ Ints w' W.heap.size u (unrL m q) ∧ Below W.heap.size W w' := by
  have HO := Lib.hid (sOne W m (by omega))
  have FS := Lib.hid (fun (k : Nat) (hk : k ≤ 12) (W : World) => sfact k hk W)
  have LS : Hid (∀ i, i < m → ∃ A rest, lstU (stU m q i) 12 = A ++ ((unr m q i : Nat) : Int) :: rest ∧ A.length = dgt m q i ∧ lstU (stU m q (i + 1)) 12 = A ++ rest) := fun i hi => lst_step hm hi
  have LL : Hid (∀ i, i ≤ m → (lstU (stU m q i) 12).length = m - i) := fun i hi => lst_len hm hi
  have DM : Hid (∀ i, i < m → q % fct (m - i) / fct (m - 1 - i) = dgt m q i ∧ q % fct (m - i) % fct (m - 1 - i) = q % fct (m - (i + 1))) := fun i hi => dgt_model hi
  have FP : Hid (∀ k, 1 ≤ fct k) := fct_pos
  have L0 : Hid (lstU (stU m q 0) 12 = oneL m) := lst_zero hm
  have Q0 : Hid (q % fct (m - 0) = q) := by unfold Hid; rw [Nat.sub_zero]; exact Nat.mod_eq_of_lt hq
  have UL : Hid (∀ i, (List.range (i + 1)).map (fun i => ((unr m q i : Nat) : Int)) = (List.range i).map (fun i => ((unr m q i : Nat) : Int)) ++ [((unr m q i : Nat) : Int)]) := fun i => by rw [List.range_succ, List.map_append]; rfl
  have UE : Hid (unrL m q = (List.range m).map (fun i => ((unr m q i : Nat) : Int))) := rfl
  clear hq
  go_enter Try.func79, Try.ntmps79
  go_wp2_with fail
  refine HO.out.mono ?_
  rintro e w1 ⟨v1, rfl, i1, b1⟩
  rw [← L0.out] at i1
  have I1 := Lib.hid i1
  have B1 := Lib.hid b1
  have s1 := b1.size
  clear i1 b1
  go_wp2
  obtain ⟨wo, hwo⟩ : ∃ wo, w1.alloc (.cells #[] 2) = wo := ⟨_, rfl⟩
  have bo : Below w1.heap.size w1 wo := by rw [← hwo]; exact (Below.refl _ _).alloc (Nat.le_refl _) _
  have O0 : Hid (Ints wo w1.heap.size (.slice (some ⟨w1.heap.size, 0, none⟩) 0 0) []) := by rw [← hwo]; exact World.ownsRow_made w1 #[] 0 (Nat.le_refl _) (by decide) rfl
  have I2 : Hid (IntsL wo W.heap.size w1.heap.size v1 (lstU (stU m q 0) 12)) := (I1.out.lim).below bo (Nat.le_refl _)
  have BO : Hid (Below W.heap.size W wo) := B1.out.trans (bo.mono s1)
  rw [hwo]
  have HW := Lib.hid (Nat.le_refl W.heap.size)
  have hz0 : W.heap.size ≤ wo.heap.size := BO.out.size
  have AP0 : Hid (∀ k, v1.ownBlock = some k → (Value.slice (some ⟨w1.heap.size, 0, none⟩) 0 0).ownBlock ≠ some k) := fun k e => by
    have := I2.out.2.1 k e
    simp only [Value.ownBlock, ne_eq, Option.some.injEq]; omega
  have O1 : Hid (Ints wo W.heap.size (.slice (some ⟨w1.heap.size, 0, none⟩) 0 0) ((List.range 0).map (fun i => ((unr m q i : Nat) : Int)))) := O0.out.mono s1
  obtain ⟨B, hB⟩ : ∃ B, W.heap.size = B := ⟨_, rfl⟩
  rw [hB] at I2 BO hz0 O1
  have HE := Lib.hid hB
  clear hwo bo hB O0
  obtain ⟨i0, hi, hz1, hz2, hz3⟩ := info_parts Try.infoInt
  go_loopw [1, 5, 6] (fun r lv ov wr => ∃ i : Nat, i ≤ m ∧ r = .int .i64 (q % fct (m - i) : Nat) ∧ Hid (Ints wr B lv (lstU (stU m q i) 12)) ∧ Hid (Ints wr B ov ((List.range i).map (fun i => ((unr m q i : Nat) : Int)))) ∧ Hid (∀ k, lv.ownBlock = some k → ov.ownBlock ≠ some k) ∧ Hid (Below B W wr) ∧ B ≤ wr.heap.size) (fun _ lv _ _ => lenV lv)
  case atStart => exact ⟨0, by omega, by rw [Q0.out], I2.out.1, O1, AP0, BO, hz0⟩
  case round =>
    obtain ⟨i, hi', rfl, hL, hO, hA, hBl, hz⟩ := hrel
    have ll := LL.out i hi'
    by_cases c : i < m
    · obtain ⟨A, rest, e1, e2, e3⟩ := LS.out i c
      obtain ⟨d1, d2⟩ := DM.out i c
      obtain ⟨g, cap, e4⟩ := hL.out.slot (by omega)
      rw [ll] at e4
      subst e4
      have gc := (World.ownsRow.lt hL.out g rfl)
      have hcap : m - i ≤ cap := by
        have := hL.out.capOk
        exact this
      have CE := Lib.hid (hL.out.cells ll)
      obtain ⟨X, hX⟩ : ∃ X, lstU (stU m q i) 12 = X := ⟨_, rfl⟩
      rw [hX] at CE hL ll e1
      obtain ⟨Y, hY⟩ : ∃ Y, lstU (stU m q (i + 1)) 12 = Y := ⟨_, rfl⟩
      have HY := Lib.hid hY
      rw [hY] at e3
      clear hX hY
      obtain ⟨x, hx⟩ : ∃ x, unr m q i = x := ⟨_, rfl⟩
      rw [hx] at e1
      have HX := Lib.hid hx
      clear hx
      obtain ⟨p, hp⟩ : ∃ p, m - 1 - i = p := ⟨_, rfl⟩
      have hL1 : m - i = p + 1 := by omega
      have lX : X.length = A.length + 1 + rest.length := by rw [e1, List.length_append, List.length_cons]; omega
      obtain ⟨d, hd⟩ : ∃ d, dgt m q i = d := ⟨_, rfl⟩
      rw [hd] at d1 e2
      clear hd
      have dl : d < p + 1 := by omega
      have rl : d + rest.length = p := by omega
      rw [hL1] at hL CE ll hcap ⊢
      have cd := CE.out d dl
      have gx : X.getD d 0 = (x : Int) := by rw [e1, ← e2]; simp [List.getD]
      rw [gx] at cd
      have E1 := Lib.hid e1
      have E3 := Lib.hid e3
      have LA := Lib.hid e2
      have LR := Lib.hid rl
      clear e1 e2 e3 gx lX rl
      obtain ⟨F, hF⟩ : ∃ F, fct p = F := ⟨_, rfl⟩
      have Fp : 1 ≤ F := by rw [← hF]; exact FP.out p
      obtain ⟨R, hR⟩ : ∃ R, q % fct (m - i) = R := ⟨_, rfl⟩
      have Rq : R ≤ 479001600 := by
        have h1 := Nat.mod_lt q (FP.out (m - i))
        have h2 := fct12 (n := m - i) (by omega)
        rw [hR] at h1
        exact Nat.le_trans (Nat.le_of_lt h1) h2
      rw [hp, hF, hR] at d1 d2
      obtain ⟨R', hR'⟩ : ∃ R', q % fct (m - (i + 1)) = R' := ⟨_, rfl⟩
      rw [hR'] at d2
      have HR' := Lib.hid hR'
      have R'q : R' ≤ 479001600 := by rw [← d2]; exact Nat.le_trans (Nat.mod_le _ _) Rq
      have dR : d ≤ 479001600 := by rw [← d1]; exact Nat.le_trans (Nat.div_le_self _ _) Rq
      have rq : (R : Int) / (F : Int) = (d : Int) := by rw [← d1]; exact (Int.natCast_ediv R F).symm
      have rm : (R : Int) % (F : Int) = (R' : Int) := by rw [← d2]; exact (Int.natCast_emod R F).symm
      have HFS := Lib.hid (fun W => FS.out p (by omega) W)
      rw [hF] at HFS
      have hR2 : q % fct (p + 1) = R := by rw [← hL1]; exact hR
      rw [hR2]
      clear hp hF hR hR' hR2 d1 d2
      have RQ := Lib.hid rq
      have RM := Lib.hid rm
      clear rq rm
      have p12 : p ≤ 12 := by rw [← Nat.add_sub_cancel (n := p) (m := 1), ← hL1]; exact Nat.le_trans (Nat.sub_le _ _) (Nat.le_trans (Nat.sub_le _ _) hm)
      obtain ⟨-, pz, pz', pz2, pz3, wp, d0, d1', d2', d3', d4', d5', w5, w6, k1, k1'⟩ := sunNums dl hcap p12 Fp dR
      have rq := RQ.out
      have rm := RM.out
      have rq' : (R : Int).tdiv (F : Int) = (d : Int) := by rw [Int.tdiv_eq_ediv_of_nonneg (Int.natCast_nonneg R)]; exact rq
      have rm' : (R : Int).tmod (F : Int) = (R' : Int) := by rw [Int.tmod_eq_emod_of_nonneg (Int.natCast_nonneg R)]; exact rm
      have hO' : wr.ownsRow B 2 1 u6 i (((List.range i).map (fun i => ((unr m q i : Nat) : Int))).map (Value.int .i64)) := by
        have := hO.out
        unfold Ints at this
        rwa [List.length_map, List.length_range] at this
      have HO' := Lib.hid hO'
      clear hO'
      go_wp2_with fail
      refine (HFS.out _).mono ?_
      rintro e w' ⟨rfl, hw'⟩
      rw [hw']
      clear hw'
      go_wp2_with (at_builtin; refine wpList_append_own _ (by rfl) _ _ 35 (by rfl) B 2 i0 (.int .i64 0) 1 8 Try.underlying35 hi hz1 hz2 hz3 rfl (by decide) _ i _ (by rfl) (HO'.out.alloc _) ⟨wr.heap.size, 0, none⟩ 1 1 [.int .i64 x] (by rfl) rfl (cell_one_new _ _ _) (by intro z hz; simp at hz; subst hz; rfl) (by unfold maxLen; omega) (by omega) (by simp; omega) ?_; intro v' w6 h' hg hnil; have N1 := Lib.hid h'; have N2 := Lib.hid hg; clear h' hg hnil)
      have z6 : wr.heap.size + 1 ≤ w6.heap.size := by have := N2.out.size; rwa [World.size_alloc] at this
      have G6 : w6.heap[g]? = wr.heap[g]? := (N2.out.block g (by rw [World.size_alloc]; omega) (fun e => hA.out g rfl e.symm)).trans (Below.heap_alloc _ _ _ gc.2)
      have L6 : Hid (Ints w6 B (.slice (some ⟨g, 0, none⟩) (p + 1) cap) X) := ownsRow_of_block hL.out (fun k e => by simp only [Value.ownBlock, Option.some.injEq] at e; subst e; exact G6)
      have B6 : Hid (Below B W w6) := (hBl.out.alloc hz _).grown N2.out (by rw [World.size_alloc]; omega) (fun k hk => (World.ownsRow.lt HO'.out k hk).1)
      have C6 := Lib.hid (L6.out.cells ll)
      have PF : IntsAt w6 (.slice (some ⟨g, 0, none⟩) d cap) (X.take d) := prefix_at (off := 0) (fun j hj => by rw [Nat.zero_add]; exact C6.out j (by rw [ll] at hj; exact hj)) (by rw [ll]; exact Nat.le_of_lt dl) (by rw [ll]; exact Nat.le_trans (Nat.succ_le_succ p12) (by decide))
      have eA : X.take d = A := by rw [E1.out, ← LA.out, List.take_left]
      rw [eA] at PF
      have lA := LA.out
      have SO := Lib.hid (sown_at w6 _ A PF (by rw [lA]; exact Nat.le_trans (Nat.le_of_lt dl) (Nat.le_trans (Nat.succ_le_succ p12) (by decide))))
      have OUT6 : Hid (Ints w6 B v' ((List.range (i + 1)).map (fun i => ((unr m q i : Nat) : Int)))) := by
        have := N1.out
        unfold Hid Ints
        rw [UL.out, List.length_append, List.length_map, List.length_range, List.map_append, HX.out]
        exact this
      have lo6 : ∀ k, v'.ownBlock = some k → k < w6.heap.size := fun k e => (World.ownsRow.lt N1.out k e).2
      have LO6 := Lib.hid lo6
      clear PF eA G6 N1 N2 lo6 hL hA HO' CE cd hO
      refine SO.out.mono ?_
      rintro e w7 ⟨rv, rfl, i7, b7⟩
      have s7 := b7.size
      have O7 : Hid (w7.ownsRow w6.heap.size 2 1 rv d (A.map (Value.int .i64))) := by have := i7; unfold Ints at this; rwa [lA] at this
      have B7 : Hid (Below B W w7) := B6.out.trans (b7.mono (by omega))
      have C7 : Hid (∀ j, j < p + 1 → w7.cell? ⟨g, j, none⟩ = some (.int .i64 (X.getD j 0))) := fun j hj => (b7.cell (p := ⟨g, j, none⟩) (by simp only; omega)).trans (C6.out j hj)
      have OUT7 : Hid (Ints w7 B v' ((List.range (i + 1)).map (fun i => ((unr m q i : Nat) : Int)))) := OUT6.out.below b7 (Nat.le_refl _)
      clear i7 b7 SO L6 C6 OUT6
      have HC9 : Hid (∀ j u, (rest.map (Value.int .i64))[j]? = some u → w7.cell? ((⟨g, d + 1, none⟩ : Addr).add j) = some u) := by
        intro j u hj
        rw [List.getElem?_map] at hj
        have hj' : j < rest.length := by
          by_cases h : j < rest.length
          · exact h
          · rw [List.getElem?_eq_none (Nat.le_of_not_lt h)] at hj; cases hj
        rw [List.getElem?_eq_getElem hj'] at hj
        simp only [Option.map_some, Option.some.injEq] at hj
        subst hj
        have lr := LR.out
        rw [show (⟨g, d + 1, none⟩ : Addr).add j = ⟨g, d + 1 + j, none⟩ by unfold Addr.add; split <;> simp_all, C7.out (d + 1 + j) (by omega)]
        have : X.getD (d + 1 + j) 0 = rest[j] := by
          have e1 := E1.out
          have l1 := LA.out
          rw [e1, show d + 1 + j = A.length + (j + 1) by omega]
          simp [List.getD, hj']
        rw [this]
      have lr := LR.out
      have lr2 : rest.length = p - d := Nat.eq_sub_of_add_eq (by rw [Nat.add_comm]; exact lr)
      have hs1 : (rest.map (Value.int .i64)).length = (p - d) * 1 := by rw [List.length_map, Nat.mul_one]; exact lr2
      have mx : d + (p - d) ≤ 100 := by rw [← lr2, lr]; exact Nat.le_trans p12 (by decide)
      have mx1 : d + (p - d) ≤ maxLen := Nat.le_trans mx (by decide)
      have mx2 : (d + (p - d)) * 8 ≤ 140737488355328 := Nat.le_trans (Nat.mul_le_mul_right 8 mx) (by decide)
      have eF : Hid (d + (p - d) = p) := by unfold Hid; rw [← lr2]; exact lr
      obtain ⟨ad, had, HC10⟩ : ∃ ad, (if cap = d + 1 then some (⟨g, 0, none⟩ : Addr) else some ⟨g, d + 1, none⟩) = some ad ∧ Hid (∀ j u, (rest.map (Value.int .i64))[j]? = some u → w7.cell? (ad.add j) = some u) := by
        by_cases hcd : cap = d + 1
        · refine ⟨⟨g, 0, none⟩, if_pos hcd, fun j u hj => ?_⟩
          have : rest = [] := List.length_eq_zero_iff.1 (by omega)
          rw [this] at hj
          simp at hj
        · exact ⟨⟨g, d + 1, none⟩, if_neg hcd, HC9.out⟩
      have HAD := Lib.hid had
      clear lr C7 had
      go_wp2_with (at_builtin; refine wpList_append_own _ (by rfl) _ _ 35 (by rfl) w6.heap.size 2 i0 (.int .i64 0) 1 8 Try.underlying35 hi hz1 hz2 hz3 rfl (by decide) _ d _ (by rfl) O7.out ad (p - d) (cap - (d + 1)) (rest.map (Value.int .i64)) (by exact congrArg (fun a => Value.slice a (p - d) (cap - (d + 1))) HAD.out) hs1 HC10.out (by intro u hu; obtain ⟨x, _, rfl⟩ := List.mem_map.1 hu; rfl) mx1 mx2 s7 ?_; intro v8 w8 h8 hg8 _; have N8 := Lib.hid h8; have M8 := Lib.hid hg8; clear h8 hg8)
      have L8 : Hid (Ints w8 w6.heap.size v8 (lstU (stU m q (i + 1)) 12)) := by
        have := N8.out
        rw [eF.out, ← List.map_append] at this
        unfold Hid Ints
        rw [HY.out, E3.out, List.length_append, LA.out, LR.out]
        exact this
      have z8 : w7.heap.size ≤ w8.heap.size := M8.out.size
      have B8 : Hid (Below B W w8) := B7.out.grown M8.out (by omega) (fun k hk => by have := (World.ownsRow.lt O7.out k hk).1; omega)
      have OUT8 : Hid (Ints w8 B v' ((List.range (i + 1)).map (fun i => ((unr m q i : Nat) : Int)))) := ownsRow_of_block OUT7.out (fun k e => M8.out.block k (by have := LO6.out k e; omega) (fun e2 => by have := (World.ownsRow.lt O7.out k e2.symm).1; have := LO6.out k e; omega))
      have AP8 : Hid (∀ k, v8.ownBlock = some k → v'.ownBlock ≠ some k) := fun k e e2 => by have := (World.ownsRow.lt L8.out k e).1; have := LO6.out k e2; omega
      have lv : lenV v8 = p := by rw [L8.out.lenV, HY.out, E3.out, List.length_append, LA.out, LR.out]
      have LB : Hid (Ints w8 B v8 (lstU (stU m q (i + 1)) 12)) := L8.out.mono (by omega)
      clear L8 N8 M8 O7 OUT7 HC9
      go_roundw
      case rel => exact ⟨i + 1, by omega, by rw [HR'.out], LB, OUT8, AP8, B8, by omega⟩
      case measure => simp only [lv]; exact Nat.lt_succ_self p
    · obtain rfl : i = m := by omega
      rw [Nat.sub_self] at ll
      obtain ⟨la, lc, e4⟩ := hL.out.c.shape
      rw [ll] at e4
      subst e4
      go_wp2
      go_ret
      exact ⟨_, rfl, by rw [UE.out, HE.out]; exact hO.out, by rw [HE.out]; exact hBl.out⟩
end Go.Proofs.Ytkonddifmonkcaa
