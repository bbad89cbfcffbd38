/- ProductMols: the program. -/
import Derived.Test.YtkonddifmonkcaaPmo
namespace Go.Proofs.Ytkonddifmonkcaa
open Go.RowKit
set_option linter.unusedVariables false
set_option linter.unusedSimpArgs false

set_option maxRecDepth 100000 in
set_option maxHeartbeats 8000000 in
theorem iProductMols (p q : List (List (List Int))) (hp : SmallQ p) (hq : SmallQ q) (w : World) (v u : Value) (hv : QAt w v p) (hu : QAt w u q) :
    Calls Try.prog 26 #[v, u] w fun e w' => ∃ r, e = .returned (.tuple #[r, .int .i64 (ProductMols_1 p q)]) ∧ QL w' w.heap.size w'.heap.size r (ProductMols_0 p q) ∧ Below w.heap.size w w' := by
  have HA := Lib.hid (iVm w v p hp hv)
  have HU := Lib.hid (fun W (b : Below w.heap.size w W) => iVm W u q hq (hu.below b (Nat.le_refl _)))
  have VB := Lib.hid (fun k => Pm_bad (a := p) (b := q) k)
  have VF := Lib.hid (fun h k => Pm_far (a := p) (b := q) h k)
  have VO := Lib.hid (fun h k => Pm_ok (a := p) (b := q) h k)
  have PA := Lib.hid (fun h i hi => vm_all (q := p) h (i := i) hi)
  have PB := Lib.hid (fun h i hi => vm_all (q := q) h (i := i) hi)
  have LA := Lib.hid (fun h => (of_vm (q := p) h).1)
  have LB := Lib.hid (fun h => (of_vm (q := q) h).1)
  have SA := Lib.hid (fun i hi => hp.mem (j := i) hi)
  have SB := Lib.hid (fun i hi => hq.mem (j := i) hi)
  obtain ⟨va, vk, rfl, -, kv⟩ := hv.shape
  obtain ⟨ua, uk, rfl, -, ku⟩ := hu.shape
  have KV := Lib.hid kv
  have KU := Lib.hid ku
  have l61 := hv.1
  have l62 := hu.1
  obtain ⟨z1, hz1⟩ : ∃ z, ValidMols_0 p = z := ⟨_, rfl⟩
  obtain ⟨z2, hz2⟩ : ∃ z, ValidMols_0 q = z := ⟨_, rfl⟩
  rw [hz1] at HA
  simp only [hz2] at HU
  simp only [hz1, hz2] at VB VF VO PA PB LA LB
  obtain ⟨la, hla⟩ : ∃ l, p.length = l := ⟨_, rfl⟩
  obtain ⟨lb, hlb⟩ : ∃ l, q.length = l := ⟨_, rfl⟩
  rw [hla] at HA KV VO PA LA SA l61 ⊢
  rw [hlb] at HU KU VO PB LB SB l62 ⊢
  clear hv hu hp hq hz1 hz2 hla hlb kv ku
  cases z1 with
  | false =>
    have V := Lib.hid (VB.out (by simp))
    clear VB VF VO PA PB LA LB
    go_enter Try.func26, Try.ntmps26
    go_wp2_with fail
    refine HA.out.mono ?_
    rintro e w1 ⟨rfl, b1⟩
    have B1 := Lib.hid b1
    have NL : Hid (QL w1 w.heap.size w1.heap.size (.slice none 0 0) []) := QL.nil _ _ _ (Nat.le_refl _)
    clear b1
    go_wp2
    go_ret2
    exact ⟨_, by rw [V.out.2]; rfl, by rw [V.out.1]; exact NL.out, B1.out⟩
  | true =>
    cases z2 with
    | false =>
      have V := Lib.hid (VB.out (by simp))
      clear VB VF VO PA PB LA LB
      go_enter Try.func26, Try.ntmps26
      go_wp2_with fail
      refine HA.out.mono ?_
      rintro e w1 ⟨rfl, b1⟩
      have B1 := Lib.hid b1
      clear b1
      go_wp2_with fail
      refine (HU.out w1 B1.out).mono ?_
      rintro e w2 ⟨rfl, b2⟩
      have B2 := Lib.hid (t_chain B1.out b2)
      have NL : Hid (QL w2 w.heap.size w2.heap.size (.slice none 0 0) []) := QL.nil _ _ _ (Nat.le_refl _)
      clear b2
      go_wp2
      go_ret2
      exact ⟨_, by rw [V.out.2]; rfl, by rw [V.out.1]; exact NL.out, B2.out⟩
    | true =>
      have VF2 := Lib.hid (VF.out (by simp))
      have VO2 := Lib.hid (VO.out (by simp))
      have PA2 := Lib.hid (PA.out rfl)
      have PB2 := Lib.hid (PB.out rfl)
      obtain ⟨a1, a2⟩ := LA.out rfl
      obtain ⟨b1', b2'⟩ := LB.out rfl
      obtain ⟨n, hn⟩ : ∃ n, (p.getD 0 []).length = n := ⟨_, rfl⟩
      obtain ⟨m, hm⟩ : ∃ m, (q.getD 0 []).length = m := ⟨_, rfl⟩
      rw [hn, hm] at VF2 VO2
      simp only [hn] at PA2
      simp only [hm] at PB2
      have PC : Hid (∀ i, i < la → i < lb → (n * m ≤ 10 → ProductSquare_1 (p.getD i []) (q.getD i []) = 0) ∧ (¬ n * m ≤ 10 → ProductSquare_1 (p.getD i []) (q.getD i []) = 2)) := fun i h1 h2 => by
        obtain ⟨x1, x2⟩ := PA2.out i h1
        obtain ⟨y1, y2⟩ := PB2.out i h2
        exact ⟨fun k => (Prod_ok ⟨x1, y1⟩ (by rw [x2, y2]; exact k)).2, fun k => (Prod_far ⟨x1, y1⟩ (by rw [x2, y2]; exact k)).2⟩
      obtain ⟨gv, fv, x0, rfl, hgv, cv0, hx0⟩ := KV.out 0 (by omega)
      obtain ⟨gu, fu, y0, rfl, hgu, cu0, hy0⟩ := KU.out 0 (by omega)
      have PSUCC : Hid (∀ k, prodQ p q (k + 1) = prodQ p q k ++ [ProductSquare_0 (p.getD k []) (q.getD k [])]) := fun k => prodQ_succ p q k
      have PLEN : Hid (∀ k, (prodQ p q k).length = k) := fun k => prodQ_length p q k
      have PZ : Hid (prodQ p q 0 = []) := rfl
      obtain ⟨o, ho⟩ : ∃ o, n * m = o := ⟨_, rfl⟩
      rw [ho] at VF2 VO2 PC
      obtain ⟨mn, hmn⟩ : ∃ mn, min la lb = mn := ⟨_, rfl⟩
      have m1' : mn ≤ la := by omega
      have m2' : mn ≤ lb := by omega
      have m3' : 1 ≤ mn := by omega
      have mi : min (la : Int) (lb : Int) = (mn : Int) := by omega
      rw [hmn] at VO2
      clear hx0 hy0 cv0 cu0 hn hm VB VF VO PA PB LA LB ho
      go_enter Try.func26, Try.ntmps26
      go_wp2_with fail
      refine HA.out.mono ?_
      rintro e w1 ⟨rfl, b1⟩
      have B1 := Lib.hid b1
      clear b1
      go_wp2_with fail
      refine (HU.out w1 B1.out).mono ?_
      rintro e w2 ⟨rfl, b2⟩
      have B2 := Lib.hid (t_chain B1.out b2)
      have Q2 : Hid (QL w2 w.heap.size w2.heap.size (.slice none 0 0) (prodQ p q 0)) := by
        unfold Hid; rw [PZ.out]; exact QL.nil _ _ _ (Nat.le_refl _)
      clear b2
      go_wp2
      all_goals
        first | rw [show lb = mn by omega] | rw [show la = mn by omega]
        go_loopw [6, 23] (fun rv i wr => ∃ j : Nat, j ≤ mn ∧ i = .int .i64 j ∧ Hid (QL wr w.heap.size wr.heap.size rv (prodQ p q j)) ∧ Hid (Below w.heap.size w wr) ∧ (¬ o ≤ 10 → j = 0)) (fun _ i _ => mn - (intOf i).toNat)
        case atStart => exact ⟨0, by omega, rfl, Q2, B2, fun _ => rfl⟩
        case round =>
          obtain ⟨j, hj, rfl, hQ, hBl, hk⟩ := hrel
          by_cases c : j < mn
          · have k1 : decide ((j : Int) < (mn : Int)) = true := decide_eq_true (by omega)
            have k1' : decide (j < mn) = true := decide_eq_true (by omega)
            have wx3 := IntWalk.i64_in ((j : Int) + 1) (by omega)
            have j0 : (0 : Int) ≤ (j : Int) := by omega
            have j1 : (j : Int) < (la : Int) := by omega
            have j2 : (j : Int) < (lb : Int) := by omega
            obtain ⟨g1, f1, x, e1, hg1, cx, hx⟩ := KV.out j (by omega)
            simp only [Option.some.injEq, Addr.mk.injEq] at e1
            obtain ⟨rfl, rfl, -⟩ := e1
            obtain ⟨g1, f1, y, e1, hg1, cy, hy⟩ := KU.out j (by omega)
            simp only [Option.some.injEq, Addr.mk.injEq] at e1
            obtain ⟨rfl, rfl, -⟩ := e1
            obtain ⟨xa1, xc1, rfl, -⟩ := hx.shape
            obtain ⟨ya1, yc1, rfl, -⟩ := hy.shape
            have HP := Lib.hid (fun W (b : Below w.heap.size w W) => iProductSquare (p.getD j []) (q.getD j []) (SA.out j (by omega)) (SB.out j (by omega)) W _ _ (hx.below b (Nat.le_refl _)) (hy.below b (Nat.le_refl _)))
            obtain ⟨pc1, pc2⟩ := PC.out j (by omega) (by omega)
            have psu := Lib.hid (PSUCC.out j)
            have pln := PLEN.out j
            obtain ⟨nx, hnx⟩ : ∃ n, (p.getD j []).length = n := ⟨_, rfl⟩
            obtain ⟨ny, hny⟩ : ∃ n, (q.getD j []).length = n := ⟨_, rfl⟩
            rw [hnx] at cx HP
            rw [hny] at cy HP
            obtain ⟨cd, hcd⟩ : ∃ c, ProductSquare_1 (p.getD j []) (q.getD j []) = c := ⟨_, rfl⟩
            rw [hcd] at HP pc1 pc2
            have KEY : Hid (∀ W : World, Hid (Below w.heap.size w W) → W.cell? ⟨gv, fv + j, none⟩ = some (.slice xa1 nx xc1) ∧ W.cell? ⟨gu, fu + j, none⟩ = some (.slice ya1 ny yc1) ∧ Hid (Below w.heap.size w W)) := fun W hW =>
              ⟨(hW.out.cell (p := ⟨gv, fv + j, none⟩) hgv).trans cx, (hW.out.cell (p := ⟨gu, fu + j, none⟩) hgu).trans cy, hW⟩
            have XD : Hid (Below w.heap.size w wr.drew) := hBl.out.drew
            have QD : Hid (QL wr.drew w.heap.size wr.drew.heap.size u6 (prodQ p q j)) := hQ.out
            have zD : w.heap.size ≤ wr.drew.heap.size := hBl.out.size
            clear hx hy cx cy hnx hny hcd
            go_wp2
            refine wp_region_held_drew (S := fun W => W.cell? ⟨gv, fv + j, none⟩ = some (.slice xa1 nx xc1) ∧ W.cell? ⟨gu, fu + j, none⟩ = some (.slice ya1 ny yc1) ∧ Hid (Below w.heap.size w W)) (by kernel_rfl) (KEY.out _ XD) (fun hHeld => ?_)
            obtain ⟨wd, hwd⟩ : ∃ wd, wr.drew = wd := ⟨_, rfl⟩
            rw [hwd] at hHeld XD QD zD
            rw [hwd]
            clear hwd
            refine wpAnyH_take (i := 0) (oi := { dst := some 27, op := Op.move (Operand.tmp 0), type := 26, pos := "l07_orthogonal.go:115", after := #[], guard := none }) (v := ?_) rfl (by kernel_rfl) (by kernel_rfl) (by kernel_rfl) (fun _ _ _ h => h) (Or.inl ⟨by rfl, ?_⟩) (by assumption) ?_
            rotate_left
            · intro w hSw; (try dsimp only at hSw); go_simp
              try with_reducible rfl
            simp only [Act.put, List.setIfInBounds_toArray, List.set_cons_zero, List.set_cons_succ]
            refine wpAnyH_take (i := 1) (oi := { dst := some 28, op := Op.move (Operand.tmp 7), type := 3, pos := "l07_orthogonal.go:115", after := #[], guard := none }) (v := ?_) rfl (by kernel_rfl) (by kernel_rfl) (by kernel_rfl) (fun _ _ _ h => h) (Or.inl ⟨by rfl, ?_⟩) (by assumption) ?_
            rotate_left
            · intro w hSw; (try dsimp only at hSw); go_simp
              try with_reducible rfl
            simp only [Act.put, List.setIfInBounds_toArray, List.set_cons_zero, List.set_cons_succ]
            refine wpAnyH_take (i := 2) (oi := { dst := some 29, op := Op.indexAddr 26 (Operand.tmp 27) (Operand.tmp 28), type := 0, pos := "l07_orthogonal.go:115", after := #[{ on := 0, ground := Ground.data }, { on := 1, ground := Ground.data }], guard := none }) (v := ?_) rfl (by kernel_rfl) (by kernel_rfl) (by kernel_rfl) (fun _ _ _ h => h) (Or.inl ⟨by rfl, ?_⟩) (by assumption) ?_
            rotate_left
            · intro w hSw; (try dsimp only at hSw); go_simp
              try with_reducible rfl
            simp only [Act.put, List.setIfInBounds_toArray, List.set_cons_zero, List.set_cons_succ]
            refine wpAnyH_take (i := 3) (oi := { dst := some 30, op := Op.load 22 (Operand.tmp 29), type := 22, pos := "l07_orthogonal.go:115", after := #[{ on := 2, ground := Ground.data }], guard := none }) (v := ?_) rfl (by kernel_rfl) (by kernel_rfl) (by kernel_rfl) (fun _ _ _ h => h) (Or.inl ⟨by rfl, ?_⟩) (by assumption) ?_
            rotate_left
            · intro w hSw; (try dsimp only at hSw); go_simp
              try with_reducible rfl
            simp only [Act.put, List.setIfInBounds_toArray, List.set_cons_zero, List.set_cons_succ]
            refine wpAnyH_take (i := 4) (oi := { dst := some 31, op := Op.move (Operand.tmp 1), type := 26, pos := "l07_orthogonal.go:115", after := #[], guard := none }) (v := ?_) rfl (by kernel_rfl) (by kernel_rfl) (by kernel_rfl) (fun _ _ _ h => h) (Or.inl ⟨by rfl, ?_⟩) (by assumption) ?_
            rotate_left
            · intro w hSw; (try dsimp only at hSw); go_simp
              try with_reducible rfl
            simp only [Act.put, List.setIfInBounds_toArray, List.set_cons_zero, List.set_cons_succ]
            refine wpAnyH_take (i := 5) (oi := { dst := some 32, op := Op.move (Operand.tmp 7), type := 3, pos := "l07_orthogonal.go:115", after := #[], guard := none }) (v := ?_) rfl (by kernel_rfl) (by kernel_rfl) (by kernel_rfl) (fun _ _ _ h => h) (Or.inl ⟨by rfl, ?_⟩) (by assumption) ?_
            rotate_left
            · intro w hSw; (try dsimp only at hSw); go_simp
              try with_reducible rfl
            simp only [Act.put, List.setIfInBounds_toArray, List.set_cons_zero, List.set_cons_succ]
            refine wpAnyH_take (i := 6) (oi := { dst := some 33, op := Op.indexAddr 26 (Operand.tmp 31) (Operand.tmp 32), type := 0, pos := "l07_orthogonal.go:115", after := #[{ on := 4, ground := Ground.data }, { on := 5, ground := Ground.data }], guard := none }) (v := ?_) rfl (by kernel_rfl) (by kernel_rfl) (by kernel_rfl) (fun _ _ _ h => h) (Or.inl ⟨by rfl, ?_⟩) (by assumption) ?_
            rotate_left
            · intro w hSw; (try dsimp only at hSw); go_simp
              try with_reducible rfl
            simp only [Act.put, List.setIfInBounds_toArray, List.set_cons_zero, List.set_cons_succ]
            refine wpAnyH_take (i := 7) (oi := { dst := some 34, op := Op.load 22 (Operand.tmp 33), type := 22, pos := "l07_orthogonal.go:115", after := #[{ on := 6, ground := Ground.data }], guard := none }) (v := ?_) rfl (by kernel_rfl) (by kernel_rfl) (by kernel_rfl) (fun _ _ _ h => h) (Or.inl ⟨by rfl, ?_⟩) (by assumption) ?_
            rotate_left
            · intro w hSw; (try dsimp only at hSw); go_simp
              try with_reducible rfl
            simp only [Act.put, List.setIfInBounds_toArray, List.set_cons_zero, List.set_cons_succ]
            refine wpAnyH_ready (rs := [8]) (by kernel_rfl) (by simp) ?_
            refine AllReadyH.cons rfl (fun K hK => ?_) AllReadyH.nil
            go_simp
            go_wp2_with fail
            refine (HP.out _ XD.out).mono ?_
            rintro e w5 ⟨r, rfl, r5, b5⟩
            obtain ⟨ra, rc, rfl, -⟩ := r5.at.shape
            have X5 := Lib.hid (t_chain XD.out b5)
            have Q5 := Lib.hid (QD.out.below b5 (Nat.le_refl _))
            have R5 := Lib.hid r5
            have s5 : wd.heap.size ≤ w5.heap.size := b5.size
            clear r5 b5
            refine hK.out _ _ (KEY.out _ X5) (fun hHeld => ?_)
            clear hK K
            obtain ⟨rl, hrl⟩ : ∃ l, (ProductSquare_0 (p.getD j []) (q.getD j [])).length = l := ⟨_, rfl⟩
            rw [hrl] at R5
            rw [hrl]
            refine wpAnyH_take (i := 9) (oi := { dst := some 26, op := Op.move (Operand.tmp 35), type := 31, pos := "l07_orthogonal.go:115", after := #[{ on := 8, ground := Ground.data }], guard := none }) (v := ?_) rfl (by kernel_rfl) (by kernel_rfl) (by kernel_rfl) (fun _ _ _ h => h) (Or.inl ⟨by rfl, ?_⟩) (by assumption) ?_
            rotate_left
            · intro w hSw; (try dsimp only at hSw); go_simp
              try with_reducible rfl
            simp only [Act.put, List.setIfInBounds_toArray, List.set_cons_zero, List.set_cons_succ]
            refine wpAnyH_take (i := 10) (oi := { dst := some 36, op := Op.extract (Operand.tmp 26) 0, type := 22, pos := "l07_orthogonal.go:115", after := #[{ on := 9, ground := Ground.data }], guard := none }) (v := ?_) rfl (by kernel_rfl) (by kernel_rfl) (by kernel_rfl) (fun _ _ _ h => h) (Or.inl ⟨by rfl, ?_⟩) (by assumption) ?_
            rotate_left
            · intro w hSw; (try dsimp only at hSw); go_simp
              try with_reducible rfl
            simp only [Act.put, List.setIfInBounds_toArray, List.set_cons_zero, List.set_cons_succ]
            refine wpAnyH_take (i := 11) (oi := { dst := some 37, op := Op.extract (Operand.tmp 26) 1, type := 2, pos := "l07_orthogonal.go:115", after := #[{ on := 9, ground := Ground.data }, { on := 12, ground := Ground.gcOnly Departure.lateStores }], guard := none }) (v := ?_) rfl (by kernel_rfl) (by kernel_rfl) (by kernel_rfl) (fun _ _ _ h => h) (Or.inl ⟨by rfl, ?_⟩) (by assumption) ?_
            rotate_left
            · intro w hSw; (try dsimp only at hSw); go_simp
              try with_reducible rfl
            simp only [Act.put, List.setIfInBounds_toArray, List.set_cons_zero, List.set_cons_succ]
            refine wpAnyH_take (i := 12) (oi := { dst := some 8, op := Op.assign (Operand.tmp 36), type := 22, pos := "l07_orthogonal.go:115", after := #[{ on := 10, ground := Ground.data }, { on := 8, ground := Ground.chain }, { on := 0, ground := Ground.phase }, { on := 1, ground := Ground.phase }, { on := 2, ground := Ground.phase }, { on := 3, ground := Ground.phase }, { on := 4, ground := Ground.phase }, { on := 5, ground := Ground.phase }, { on := 6, ground := Ground.phase }, { on := 7, ground := Ground.phase }, { on := 8, ground := Ground.phase }, { on := 9, ground := Ground.phase }, { on := 10, ground := Ground.phase }, { on := 11, ground := Ground.textOnly Departure.lateStores }], guard := none }) (v := ?_) rfl (by kernel_rfl) (by kernel_rfl) (by kernel_rfl) (fun _ _ _ h => h) (Or.inl ⟨by rfl, ?_⟩) (by assumption) ?_
            rotate_left
            · intro w hSw; (try dsimp only at hSw); go_simp
              try with_reducible rfl
            simp only [Act.put, List.setIfInBounds_toArray, List.set_cons_zero, List.set_cons_succ]
            refine wpAnyH_take (i := 13) (oi := { dst := some 9, op := Op.assign (Operand.tmp 37), type := 2, pos := "l07_orthogonal.go:115", after := #[{ on := 11, ground := Ground.data }, { on := 12, ground := Ground.chain }, { on := 0, ground := Ground.phase }, { on := 1, ground := Ground.phase }, { on := 2, ground := Ground.phase }, { on := 3, ground := Ground.phase }, { on := 4, ground := Ground.phase }, { on := 5, ground := Ground.phase }, { on := 6, ground := Ground.phase }, { on := 7, ground := Ground.phase }, { on := 8, ground := Ground.phase }, { on := 9, ground := Ground.phase }, { on := 10, ground := Ground.phase }, { on := 11, ground := Ground.phase }, { on := 12, ground := Ground.phase }], guard := none }) (v := ?_) rfl (by kernel_rfl) (by kernel_rfl) (by kernel_rfl) (fun _ _ _ h => h) (Or.inl ⟨by rfl, ?_⟩) (by assumption) ?_
            rotate_left
            · intro w hSw; (try dsimp only at hSw); go_simp
              try with_reducible rfl
            simp only [Act.put, List.setIfInBounds_toArray, List.set_cons_zero, List.set_cons_succ]
            refine wpAnyH_done (by kernel_rfl) ?_ _
            by_cases k : o ≤ 10
            case neg =>
              obtain rfl : cd = 2 := pc2 k
              obtain rfl : j = 0 := hk k
              have V := Lib.hid (VF2.out k)
              have NL : Hid (QL w5 w.heap.size w5.heap.size (.slice none 0 0) []) := QL.nil _ _ _ (Nat.le_refl _)
              clear k hk pc1 pc2
              go_wp2
              go_ret2
              exact ⟨_, by rw [V.out.2]; rfl, by rw [V.out.1]; exact NL.out, X5.out⟩
            obtain rfl : cd = 0 := pc1 k
            go_wp2_with (at_builtin; refine wpList_pushQ _ (by rfl) _ _ (by rfl) w.heap.size wd.heap.size _ _ _ _ (by rfl) Q5.out R5.out _ (by rfl) (by rw [pln]; omega) zD ?_; intro v' w6 hn hb; have HN' := Lib.hid hn; have HB2 := Lib.hid (X5.out.trans (hb.mono (Nat.le_refl _))); clear hn hb)
            go_roundw
            case rel => exact ⟨j + 1, by omega, by go_num, by unfold Hid; rw [psu.out]; exact HN'.out, HB2, fun h => absurd k h⟩
            case measure => simp [intOf]; omega
          · have k1 : decide ((j : Int) < (mn : Int)) = false := decide_eq_false (by omega)
            have k1' : decide (j < mn) = false := decide_eq_false (by omega)
            obtain rfl : j = mn := by omega
            have k : o ≤ 10 := by
              by_cases k : o ≤ 10
              · exact k
              · have := hk k; omega
            have V := Lib.hid (VO2.out k)
            clear hk k
            go_wp2
            go_ret2
            exact ⟨_, by rw [V.out.2]; rfl, by rw [V.out.1]; exact hQ.out, hBl.out⟩
end Go.Proofs.Ytkonddifmonkcaa
