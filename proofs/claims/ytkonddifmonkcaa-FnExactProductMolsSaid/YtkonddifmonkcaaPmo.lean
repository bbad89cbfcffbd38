/- ProductMols: both sides. -/
import Derived.Test.YtkonddifmonkcaaRsm
import Derived.Test.YtkonddifmonkcaaVm
import Derived.Test.YtkonddifmonkcaaPrs
import Derived.Test.YtkonddifmonkcaaPri5
import Derived.StillTailTactics
namespace Go.Proofs.Ytkonddifmonkcaa
open Go.RowKit
set_option linter.unusedVariables false
set_option linter.unusedSimpArgs false

noncomputable def prodQ (a b : List (List (List Int))) (k : Nat) : List (List (List Int)) := (List.range k).map fun i => ProductSquare_0 (a.getD i []) (b.getD i [])
theorem prodQ_length (a b : List (List (List Int))) (k : Nat) : (prodQ a b k).length = k := by simp [prodQ]
theorem prodQ_succ (a b : List (List (List Int))) (k : Nat) : prodQ a b (k + 1) = prodQ a b k ++ [ProductSquare_0 (a.getD k []) (b.getD k [])] := by simp [prodQ, List.range_succ]
noncomputable def ProductMols_0 (a b : List (List (List Int))) : List (List (List Int)) :=
  if (ValidMols_0 a = true ∧ ValidMols_0 b = true) ∧ (a.getD 0 []).length * (b.getD 0 []).length ≤ 10 then prodQ a b (min a.length b.length) else []
noncomputable def ProductMols_1 (a b : List (List (List Int))) : Int := if ValidMols_0 a = true ∧ ValidMols_0 b = true then if (a.getD 0 []).length * (b.getD 0 []).length ≤ 10 then 0 else 2 else 1
theorem Pm_bad {a b : List (List (List Int))} (h : ¬ (ValidMols_0 a = true ∧ ValidMols_0 b = true)) : ProductMols_0 a b = [] ∧ ProductMols_1 a b = 1 := by
  unfold ProductMols_0 ProductMols_1
  rw [if_neg (fun k => h k.1), if_neg h]; exact ⟨rfl, rfl⟩
theorem Pm_far {a b : List (List (List Int))} (h : ValidMols_0 a = true ∧ ValidMols_0 b = true) (k : ¬ (a.getD 0 []).length * (b.getD 0 []).length ≤ 10) : ProductMols_0 a b = [] ∧ ProductMols_1 a b = 2 := by
  unfold ProductMols_0 ProductMols_1
  rw [if_neg (fun q => k q.2), if_pos h, if_neg k]; exact ⟨rfl, rfl⟩
theorem Pm_ok {a b : List (List (List Int))} (h : ValidMols_0 a = true ∧ ValidMols_0 b = true) (k : (a.getD 0 []).length * (b.getD 0 []).length ≤ 10) : ProductMols_0 a b = prodQ a b (min a.length b.length) ∧ ProductMols_1 a b = 0 := by
  unfold ProductMols_0 ProductMols_1
  rw [if_pos ⟨h, k⟩, if_pos h, if_pos k]; exact ⟨rfl, rfl⟩
/-- All squares are of one order. -/
theorem vm_all {q : List (List (List Int))} (h : ValidMols_0 q = true) {i : Nat} (hi : i < q.length) : sqB (q.getD i []) = true ∧ (q.getD i []).length = (q.getD 0 []).length := by
  have k := (of_vm h).2 i hi
  refine ⟨k.1, ?_⟩
  rcases Nat.eq_zero_or_pos i with z | z
  · rw [z]
  · exact (Orth_sq' (k.2 0 z)).symm
theorem prodQ_tot {a b : List (List (List Int))} {n m : Nat} (k1 : n * m ≤ 10) : ∀ k, (∀ i, i < k → (sqB (a.getD i []) = true ∧ (a.getD i []).length = n) ∧ (sqB (b.getD i []) = true ∧ (b.getD i []).length = m)) → totQ (prodQ a b k) ≤ 100 * k
  | 0, _ => by simp [prodQ, totQ]
  | k + 1, h => by
    have ih := prodQ_tot k1 k (fun i hi => h i (by omega))
    obtain ⟨⟨h1, h2⟩, h3, h4⟩ := h k (by omega)
    have e := (Prod_ok ⟨h1, h3⟩ (by rw [h2, h4]; exact k1)).1
    have t : tot (ProductSquare_0 (a.getD k []) (b.getD k [])) = n * m * (n * m) := by rw [e, h2, h4, tot_gridL]
    have : n * m * (n * m) ≤ 10 * 10 := Nat.mul_le_mul k1 k1
    rw [prodQ_succ, totQ_append]
    simp only [totQ]
    omega
theorem lenProductMols_0 (a b : List (List (List Int))) (hx : SmallQ a) (hy : SmallQ b) : (ProductMols_0 a b).length + totQ (ProductMols_0 a b) ≤ 2000000 := by
  by_cases h : ValidMols_0 a = true ∧ ValidMols_0 b = true
  · by_cases k : (a.getD 0 []).length * (b.getD 0 []).length ≤ 10
    · have l1 := (of_vm h.1).1.2
      have l2 := Nat.min_le_left a.length b.length
      have l3 := Nat.min_le_right a.length b.length
      have t := prodQ_tot (a := a) (b := b) k (min a.length b.length) (fun i hi => ⟨vm_all h.1 (by omega), vm_all h.2 (by omega)⟩)
      rw [(Pm_ok h k).1, prodQ_length]
      omega
    · rw [(Pm_far h k).1]; decide
  · rw [(Pm_bad h).1]; decide

set_option maxRecDepth 100000 in
set_option maxHeartbeats 8000000 in
theorem sProductMols (p q : List (List (List Int))) (hp : SmallQ p) (hq : SmallQ q) (w : World) (v u : Value) (hv : QAt w v p) (hu : QAt w u q) :
    Calls Try.prog 25 #[v, u] w fun e w' => ∃ r, e = .returned (.tuple #[r, .int .i64 (ProductMols_1 p q)]) ∧ QAt w' r (ProductMols_0 p q) ∧ Below w.heap.size w w' := by
  have HA := Lib.hid (sVm w v p hv)
  have HU := Lib.hid (fun W (b : Below w.heap.size w W) => sVm W u q (hu.below b (Nat.le_refl _)))
  have VB := Lib.hid (fun k => Pm_bad (a := p) (b := q) k)
  have VF := Lib.hid (fun h k => Pm_far (a := p) (b := q) h k)
  have VO := Lib.hid (fun h k => Pm_ok (a := p) (b := q) h k)
  have PA := Lib.hid (fun h i hi => vm_all (q := p) h (i := i) hi)
  have PB := Lib.hid (fun h i hi => vm_all (q := q) h (i := i) hi)
  have LA := Lib.hid (fun h => (of_vm (q := p) h).1)
  have LB := Lib.hid (fun h => (of_vm (q := q) h).1)
  obtain ⟨va, vk, rfl, -, kv⟩ := hv.shape
  obtain ⟨ua, uk, rfl, -, ku⟩ := hu.shape
  have KV := Lib.hid kv
  have KU := Lib.hid ku
  obtain ⟨z1, hz1⟩ : ∃ z, ValidMols_0 p = z := ⟨_, rfl⟩
  obtain ⟨z2, hz2⟩ : ∃ z, ValidMols_0 q = z := ⟨_, rfl⟩
  rw [hz1] at HA
  simp only [hz2] at HU
  simp only [hz1, hz2] at VB VF VO PA PB LA LB
  obtain ⟨la, hla⟩ : ∃ l, p.length = l := ⟨_, rfl⟩
  obtain ⟨lb, hlb⟩ : ∃ l, q.length = l := ⟨_, rfl⟩
  rw [hla] at HA KV VO PA LA ⊢
  rw [hlb] at HU KU VO PB LB ⊢
  clear hv hu hp hq hz1 hz2 hla hlb kv ku
  cases z1 with
  | false =>
    have V := Lib.hid (VB.out (by simp))
    clear VB VF VO PA PB LA LB
    go_enter Try.func25, Try.ntmps25
    go_wp2_with fail
    refine HA.out.mono ?_
    rintro e w1 ⟨rfl, b1⟩
    have B1 := Lib.hid b1
    clear b1
    go_wp2
    go_ret2
    exact ⟨_, by rw [V.out.2]; rfl, by rw [V.out.1]; exact QAt.nil _ _ _, B1.out⟩
  | true =>
    cases z2 with
    | false =>
      have V := Lib.hid (VB.out (by simp))
      clear VB VF VO PA PB LA LB
      go_enter Try.func25, Try.ntmps25
      go_wp2_with fail
      refine HA.out.mono ?_
      rintro e w1 ⟨rfl, b1⟩
      have B1 := Lib.hid b1
      clear b1
      go_wp2_with fail
      refine (HU.out w1 B1.out).mono ?_
      rintro e w2 ⟨rfl, b2⟩
      have B2 := Lib.hid (t_chain B1.out b2)
      clear b2
      go_wp2
      go_ret2
      exact ⟨_, by rw [V.out.2]; rfl, by rw [V.out.1]; exact QAt.nil _ _ _, B2.out⟩
    | true =>
      have VF2 := Lib.hid (VF.out (by simp))
      have VO2 := Lib.hid (VO.out (by simp))
      have PA2 := Lib.hid (PA.out rfl)
      have PB2 := Lib.hid (PB.out rfl)
      obtain ⟨a1, a2⟩ := LA.out rfl
      obtain ⟨b1', b2'⟩ := LB.out rfl
      obtain ⟨n, hn⟩ : ∃ n, (p.getD 0 []).length = n := ⟨_, rfl⟩
      obtain ⟨m, hm⟩ : ∃ m, (q.getD 0 []).length = m := ⟨_, rfl⟩
      rw [hn, hm] at VF2 VO2
      simp only [hn] at PA2
      simp only [hm] at PB2
      have n1 := (of_sqB (PA2.out 0 (by omega)).1).lo
      have n2 := (of_sqB (PA2.out 0 (by omega)).1).hi
      have m1 := (of_sqB (PB2.out 0 (by omega)).1).lo
      have m2 := (of_sqB (PB2.out 0 (by omega)).1).hi
      rw [hn] at n1 n2
      rw [hm] at m1 m2
      obtain ⟨gv, fv, x0, rfl, hgv, cv0, hx0⟩ := KV.out 0 (by omega)
      obtain ⟨gu, fu, y0, rfl, hgu, cu0, hy0⟩ := KU.out 0 (by omega)
      obtain ⟨xa, xc, rfl, -⟩ := hx0.shape
      obtain ⟨ya, yc, rfl, -⟩ := hy0.shape
      rw [hn, Nat.add_zero] at cv0
      rw [hm, Nat.add_zero] at cu0
      have ec : (n : Int) * (m : Int) = ((n * m : Nat) : Int) := (Int.natCast_mul n m).symm
      have nm1 : n * m ≤ 10 * 10 := Nat.mul_le_mul n2 m2
      have NM : Hid (n * m ≤ 10 ↔ n * m ≤ 10) := Iff.rfl
      have IT : Hid (∀ i, i < la → i < lb → n * m ≤ 10 → (ProductSquare_0 (p.getD i []) (q.getD i []) = gridL (n * m) (n * m) (prodF m (cellF (p.getD i [])) (cellF (q.getD i []))))) := fun i h1 h2 k => by
        obtain ⟨x1, x2⟩ := PA2.out i h1
        obtain ⟨y1, y2⟩ := PB2.out i h2
        have := (Prod_ok ⟨x1, y1⟩ (by rw [x2, y2]; exact k)).1
        rw [x2, y2] at this
        exact this
      have C0 : Hid (∀ W : World, Below w.heap.size w W → W.cell? ⟨gv, fv, none⟩ = some (.slice xa n xc) ∧ W.cell? ⟨gu, fu, none⟩ = some (.slice ya m yc)) := fun W b => ⟨(b.cell (p := ⟨gv, fv, none⟩) hgv).trans cv0, (b.cell (p := ⟨gu, fu, none⟩) hgu).trans cu0⟩
      have la0 : (0 : Int) < (la : Int) := by omega
      have lb0 : (0 : Int) < (lb : Int) := by omega
      have la0' : 0 < la := by omega
      have lb0' : 0 < lb := by omega
      have PSUCC : Hid (∀ k, prodQ p q (k + 1) = prodQ p q k ++ [ProductSquare_0 (p.getD k []) (q.getD k [])]) := fun k => prodQ_succ p q k
      have PLEN : Hid (∀ k, (prodQ p q k).length = k) := fun k => prodQ_length p q k
      have PZ : Hid (prodQ p q 0 = []) := rfl
      obtain ⟨o, ho⟩ : ∃ o, n * m = o := ⟨_, rfl⟩
      have HOO := Lib.hid ho
      rw [ho] at ec nm1 VF2 VO2
      have wo := IntWalk.i64_in (o : Int) (by omega)
      clear hx0 hy0 cv0 cu0 hn hm VB VF VO PA PB LA LB ho
      go_enter Try.func25, Try.ntmps25
      go_wp2_with fail
      refine HA.out.mono ?_
      rintro e w1 ⟨rfl, b1⟩
      have B1 := Lib.hid b1
      clear b1
      go_wp2_with fail
      refine (HU.out w1 B1.out).mono ?_
      rintro e w2 ⟨rfl, b2⟩
      have B2 := Lib.hid (t_chain B1.out b2)
      clear b2
      obtain ⟨e1, e2⟩ := C0.out w2.drew B2.out.drew
      by_cases k : o ≤ 10
      case neg =>
        have V := Lib.hid (VF2.out k)
        have t2 : decide ((10 : Int) < (o : Int)) = true := decide_eq_true (by omega)
        have t2' : decide (10 < o) = true := decide_eq_true (by omega)
        have BD := Lib.hid B2.out.drew
        clear k
        go_wp2
        refine wp_region_still_lit (by kernel_rfl) (by kernel_rfl) ?_
        repeat still_step
        refine wpStill_nil ?_
        go_wp2
        go_ret2
        exact ⟨_, by rw [V.out.2]; rfl, by rw [V.out.1]; exact QAt.nil _ _ _, BD.out⟩
      have V := Lib.hid (VO2.out k)
      have t2 : decide ((10 : Int) < (o : Int)) = false := decide_eq_false (by omega)
      have t2' : decide (10 < o) = false := decide_eq_false (by omega)
      have B3 : Below w.heap.size w w2.drew := B2.out.drew
      obtain ⟨w3, hw3⟩ : ∃ w3, w2.drew = w3 := ⟨_, rfl⟩
      rw [hw3] at B3 e1 e2
      obtain ⟨B, hB⟩ : ∃ B, w3.heap.size = B := ⟨_, rfl⟩
      have wB : w.heap.size ≤ B := by rw [← hB]; exact B3.size
      have Q4 : Hid (QL (w3.alloc (.cells #[] 22)) B (w3.alloc (.cells #[] 22)).heap.size (.slice (some ⟨B, 0, none⟩) 0 0) (prodQ p q 0)) := by
        unfold Hid
        rw [PZ.out, ← hB]
        refine ⟨[], fun _ => 0, fun _ => 0, rfl, World.ownsRow_made w3 #[] 0 (Nat.le_refl _) (by decide) rfl, fun k e => ?_, Nat.le_refl _, fun j hj => by simp at hj, fun i j _ hi => by simp at hi⟩
        simp only [Value.ownBlock, Option.some.injEq] at e
        exact ⟨by rw [World.size_alloc]; omega, fun j hj => by simp at hj⟩
      have B4 : Hid (Below w.heap.size w (w3.alloc (.cells #[] 22))) := B3.alloc B3.size _
      have z4 : B ≤ (w3.alloc (.cells #[] 22)).heap.size := by rw [World.size_alloc]; omega
      obtain ⟨w4, hw4⟩ : ∃ w4, w3.alloc (.cells #[] 22) = w4 := ⟨_, rfl⟩
      rw [hw4] at Q4 B4 z4
      go_wp2
      refine wp_region_still_lit (by kernel_rfl) (by kernel_rfl) ?_
      change wpStill _ _ w2.drew _ _ _
      rw [hw3]
      repeat still_step
      refine wpStill_nil ?_
      change Exit.then _ _ .normal _ w2.drew
      rw [hw3]
      go_wp2
      clear hw3 hw4 hB e1 e2 B3
      obtain ⟨mn, hmn⟩ : ∃ mn, min la lb = mn := ⟨_, rfl⟩
      have m1' : mn ≤ la := by omega
      have m2' : mn ≤ lb := by omega
      have mc : mn = la ∨ mn = lb := by omega
      rw [hmn] at V
      go_loopw [6, 7] (fun rv i wr => ∃ j : Nat, j ≤ mn ∧ i = .int .i64 j ∧ Hid (QL wr B wr.heap.size rv (prodQ p q j)) ∧ Hid (Below w.heap.size w wr) ∧ B ≤ wr.heap.size) (fun _ i _ => mn - (intOf i).toNat)
      case atStart => exact ⟨0, by omega, rfl, Q4, B4, z4⟩
      case round =>
        obtain ⟨j, hj, rfl, hQ, hBl, hz⟩ := hrel
        by_cases c : j < mn
        · have k1 : decide ((j : Int) < (la : Int)) = true := decide_eq_true (by omega)
          have k1' : decide (j < la) = true := decide_eq_true (by omega)
          have k2 : decide ((j : Int) < (lb : Int)) = true := decide_eq_true (by omega)
          have k2' : decide (j < lb) = true := decide_eq_true (by omega)
          have wx3 := IntWalk.i64_in ((j : Int) + 1) (by omega)
          have j0 : (0 : Int) ≤ (j : Int) := by omega
          have j1 : (j : Int) < (la : Int) := by omega
          have j2 : (j : Int) < (lb : Int) := by omega
          obtain ⟨g1, f1, x, e1, hg1, cx, hx⟩ := KV.out j (by omega)
          simp only [Option.some.injEq, Addr.mk.injEq] at e1
          obtain ⟨rfl, rfl, -⟩ := e1
          obtain ⟨g1, f1, y, e1, hg1, cy, hy⟩ := KU.out j (by omega)
          simp only [Option.some.injEq, Addr.mk.injEq] at e1
          obtain ⟨rfl, rfl, -⟩ := e1
          obtain ⟨xa1, xc1, rfl, -⟩ := hx.shape
          obtain ⟨ya1, yc1, rfl, -⟩ := hy.shape
          obtain ⟨s1, s2⟩ := PA2.out j (by omega)
          obtain ⟨s3, s4⟩ := PB2.out j (by omega)
          have S1 := of_sqB s1
          have S2 := of_sqB s3
          have r1 := S1.rowLen
          have r2 := S2.rowLen
          have i1 := S1.inSq
          have i2 := S2.inSq
          rw [s2] at r1 i1
          rw [s4] at r2 i2
          have HP := Lib.hid (fun W (b : Below w.heap.size w W) => sProduct n m n1 m1 (by rw [HOO.out]; exact k) W _ _ _ _ (hx.below b (Nat.le_refl _)) (hy.below b (Nat.le_refl _)) s2 s4 r1 r2 i1 i2)
          have it := Lib.hid (IT.out j (by omega) (by omega) (by rw [HOO.out]; exact k))
          have psu := Lib.hid (PSUCC.out j)
          have pln := PLEN.out j
          rw [s2] at cx HP
          rw [s4] at cy HP
          have KEY : Hid (∀ W : World, Hid (Below w.heap.size w W) → W.cell? ⟨gv, fv + j, none⟩ = some (.slice xa1 n xc1) ∧ W.cell? ⟨gu, fu + j, none⟩ = some (.slice ya1 m yc1) ∧ Hid (Below w.heap.size w W)) := fun W hW =>
            ⟨(hW.out.cell (p := ⟨gv, fv + j, none⟩) hgv).trans cx, (hW.out.cell (p := ⟨gu, fu + j, none⟩) hgu).trans cy, hW⟩
          have XD : Hid (Below w.heap.size w wr.drew) := hBl.out.drew
          have QD : Hid (QL wr.drew B wr.drew.heap.size u6 (prodQ p q j)) := hQ.out
          have zD : B ≤ wr.drew.heap.size := hz
          clear hx hy cx cy S1 S2 r1 r2 i1 i2 s1 s2 s3 s4
          go_wp2
          refine wp_region_held_drew (S := fun W => W.cell? ⟨gv, fv + j, none⟩ = some (.slice xa1 n xc1) ∧ W.cell? ⟨gu, fu + j, none⟩ = some (.slice ya1 m yc1) ∧ Hid (Below w.heap.size w W)) (by kernel_rfl) (KEY.out _ XD) (fun hHeld => ?_)
          obtain ⟨wd, hwd⟩ : ∃ wd, wr.drew = wd := ⟨_, rfl⟩
          rw [hwd] at hHeld XD QD zD
          rw [hwd]
          clear hwd
          refine wpAnyH_take (i := 0) (oi := { dst := some 39, op := Op.move (Operand.tmp 6), type := 26, pos := "l07_orthogonal.go:116", after := #[], guard := none }) (v := ?_) rfl (by kernel_rfl) (by kernel_rfl) (by kernel_rfl) (fun _ _ _ h => h) (Or.inl ⟨by rfl, ?_⟩) (by assumption) ?_
          rotate_left
          · intro w hSw; (try dsimp only at hSw); go_simp
            try with_reducible rfl
          simp only [Act.put, List.setIfInBounds_toArray, List.set_cons_zero, List.set_cons_succ]
          refine wpAnyH_take (i := 1) (oi := { dst := some 40, op := Op.move (Operand.tmp 0), type := 26, pos := "l07_orthogonal.go:116", after := #[], guard := none }) (v := ?_) rfl (by kernel_rfl) (by kernel_rfl) (by kernel_rfl) (fun _ _ _ h => h) (Or.inl ⟨by rfl, ?_⟩) (by assumption) ?_
          rotate_left
          · intro w hSw; (try dsimp only at hSw); go_simp
            try with_reducible rfl
          simp only [Act.put, List.setIfInBounds_toArray, List.set_cons_zero, List.set_cons_succ]
          refine wpAnyH_take (i := 2) (oi := { dst := some 41, op := Op.move (Operand.tmp 7), type := 3, pos := "l07_orthogonal.go:116", after := #[], guard := none }) (v := ?_) rfl (by kernel_rfl) (by kernel_rfl) (by kernel_rfl) (fun _ _ _ h => h) (Or.inl ⟨by rfl, ?_⟩) (by assumption) ?_
          rotate_left
          · intro w hSw; (try dsimp only at hSw); go_simp
            try with_reducible rfl
          simp only [Act.put, List.setIfInBounds_toArray, List.set_cons_zero, List.set_cons_succ]
          refine wpAnyH_take (i := 3) (oi := { dst := some 42, op := Op.indexAddr 26 (Operand.tmp 40) (Operand.tmp 41), type := 0, pos := "l07_orthogonal.go:116", after := #[{ on := 1, ground := Ground.data }, { on := 2, ground := Ground.data }], guard := none }) (v := ?_) rfl (by kernel_rfl) (by kernel_rfl) (by kernel_rfl) (fun _ _ _ h => h) (Or.inl ⟨by rfl, ?_⟩) (by assumption) ?_
          rotate_left
          · intro w hSw; (try dsimp only at hSw); go_simp
            try with_reducible rfl
          simp only [Act.put, List.setIfInBounds_toArray, List.set_cons_zero, List.set_cons_succ]
          refine wpAnyH_take (i := 4) (oi := { dst := some 43, op := Op.load 22 (Operand.tmp 42), type := 22, pos := "l07_orthogonal.go:116", after := #[{ on := 3, ground := Ground.data }], guard := none }) (v := ?_) rfl (by kernel_rfl) (by kernel_rfl) (by kernel_rfl) (fun _ _ _ h => h) (Or.inl ⟨by rfl, ?_⟩) (by assumption) ?_
          rotate_left
          · intro w hSw; (try dsimp only at hSw); go_simp
            try with_reducible rfl
          simp only [Act.put, List.setIfInBounds_toArray, List.set_cons_zero, List.set_cons_succ]
          refine wpAnyH_take (i := 5) (oi := { dst := some 44, op := Op.move (Operand.tmp 1), type := 26, pos := "l07_orthogonal.go:116", after := #[], guard := none }) (v := ?_) rfl (by kernel_rfl) (by kernel_rfl) (by kernel_rfl) (fun _ _ _ h => h) (Or.inl ⟨by rfl, ?_⟩) (by assumption) ?_
          rotate_left
          · intro w hSw; (try dsimp only at hSw); go_simp
            try with_reducible rfl
          simp only [Act.put, List.setIfInBounds_toArray, List.set_cons_zero, List.set_cons_succ]
          refine wpAnyH_take (i := 6) (oi := { dst := some 45, op := Op.move (Operand.tmp 7), type := 3, pos := "l07_orthogonal.go:116", after := #[], guard := none }) (v := ?_) rfl (by kernel_rfl) (by kernel_rfl) (by kernel_rfl) (fun _ _ _ h => h) (Or.inl ⟨by rfl, ?_⟩) (by assumption) ?_
          rotate_left
          · intro w hSw; (try dsimp only at hSw); go_simp
            try with_reducible rfl
          simp only [Act.put, List.setIfInBounds_toArray, List.set_cons_zero, List.set_cons_succ]
          refine wpAnyH_take (i := 7) (oi := { dst := some 46, op := Op.indexAddr 26 (Operand.tmp 44) (Operand.tmp 45), type := 0, pos := "l07_orthogonal.go:116", after := #[{ on := 5, ground := Ground.data }, { on := 6, ground := Ground.data }], guard := none }) (v := ?_) rfl (by kernel_rfl) (by kernel_rfl) (by kernel_rfl) (fun _ _ _ h => h) (Or.inl ⟨by rfl, ?_⟩) (by assumption) ?_
          rotate_left
          · intro w hSw; (try dsimp only at hSw); go_simp
            try with_reducible rfl
          simp only [Act.put, List.setIfInBounds_toArray, List.set_cons_zero, List.set_cons_succ]
          refine wpAnyH_take (i := 8) (oi := { dst := some 47, op := Op.load 22 (Operand.tmp 46), type := 22, pos := "l07_orthogonal.go:116", after := #[{ on := 7, ground := Ground.data }], guard := none }) (v := ?_) rfl (by kernel_rfl) (by kernel_rfl) (by kernel_rfl) (fun _ _ _ h => h) (Or.inl ⟨by rfl, ?_⟩) (by assumption) ?_
          rotate_left
          · intro w hSw; (try dsimp only at hSw); go_simp
            try with_reducible rfl
          simp only [Act.put, List.setIfInBounds_toArray, List.set_cons_zero, List.set_cons_succ]
          refine wpAnyH_ready (rs := [9]) (by kernel_rfl) (by simp) ?_
          refine AllReadyH.cons rfl (fun K hK => ?_) AllReadyH.nil
          go_simp
          go_wp2_with fail
          refine (HP.out _ XD.out).mono ?_
          rintro e w5 ⟨r, rfl, r5, b5⟩
          rw [← it.out] at r5
          obtain ⟨ra, rc, rfl, -⟩ := r5.at.shape
          have X5 := Lib.hid (t_chain XD.out b5)
          have Q5 := Lib.hid (QD.out.below b5 (Nat.le_refl _))
          have R5 := Lib.hid r5
          have s5 : wd.heap.size ≤ w5.heap.size := b5.size
          clear r5 b5
          refine hK.out _ _ (KEY.out _ X5) (fun hHeld => ?_)
          clear hK K
          obtain ⟨rl, hrl⟩ : ∃ l, (ProductSquare_0 (p.getD j []) (q.getD j [])).length = l := ⟨_, rfl⟩
          rw [hrl] at R5
          rw [hrl]
          have X6 : Hid (Below w.heap.size w (w5.alloc (.cells #[.slice ra rl rc] 22))) := X5.out.alloc X5.out.size _
          refine wpAnyH_ready (rs := [10]) (by kernel_rfl) (by simp) ?_
          refine AllReadyH.cons rfl (fun K hK => ?_) AllReadyH.nil
          go_simp
          refine hK.out _ _ (KEY.out _ X6) (fun hHeld => ?_)
          clear hK K
          refine wpAnyH_ready (rs := [11]) (by kernel_rfl) (by simp) ?_
          refine AllReadyH.cons rfl (fun K hK => ?_) AllReadyH.nil
          rw [if_pos (by rfl)]
          refine wp_pushQ w5 _ _ (by rfl) B wd.heap.size _ _ _ _ (by rfl) Q5.out R5.out _ (by rfl) (by rw [pln]; omega) zD ?_
          intro v' w6 hn hb
          have HN' := Lib.hid hn
          have HB2 := Lib.hid hb
          have B6 := Lib.hid (X5.out.trans (hb.mono wB))
          clear hn hb
          simp only [Act.put, List.setIfInBounds_toArray, List.set_cons_zero, List.set_cons_succ]
          refine hK.out _ _ (KEY.out _ B6) (fun hHeld => ?_)
          clear hK K
          refine wpAnyH_take (i := 12) (oi := { dst := some 6, op := Op.assign (Operand.tmp 50), type := 26, pos := "l07_orthogonal.go:116", after := #[{ on := 11, ground := Ground.data }, { on := 11, ground := Ground.chain }, { on := 0, ground := Ground.phase }, { on := 1, ground := Ground.phase }, { on := 2, ground := Ground.phase }, { on := 3, ground := Ground.phase }, { on := 4, ground := Ground.phase }, { on := 5, ground := Ground.phase }, { on := 6, ground := Ground.phase }, { on := 7, ground := Ground.phase }, { on := 8, ground := Ground.phase }, { on := 9, ground := Ground.phase }, { on := 10, ground := Ground.phase }, { on := 11, ground := Ground.phase }], guard := none }) (v := ?_) rfl (by kernel_rfl) (by kernel_rfl) (by kernel_rfl) (fun _ _ _ h => h) (Or.inl ⟨by rfl, ?_⟩) (by assumption) ?_
          rotate_left
          · intro w hSw; (try dsimp only at hSw); go_simp
            try with_reducible rfl
          simp only [Act.put, List.setIfInBounds_toArray, List.set_cons_zero, List.set_cons_succ]
          refine wpAnyH_done (by kernel_rfl) ?_ _
          go_wp2
          go_roundw
          case rel => exact ⟨j + 1, by omega, by go_num, by unfold Hid; rw [psu.out]; exact HN'.out, B6, Nat.le_trans (Nat.le_trans zD s5) HB2.out.size⟩
          case measure => simp [intOf]; omega
        · obtain rfl : j = mn := by omega
          have RR := Lib.hid hQ.out.at
          by_cases c1 : j < la
          · have k1 : decide ((j : Int) < (la : Int)) = true := decide_eq_true (by omega)
            have k1' : decide (j < la) = true := decide_eq_true (by omega)
            have k2 : decide ((j : Int) < (lb : Int)) = false := decide_eq_false (by omega)
            have k2' : decide (j < lb) = false := decide_eq_false (by omega)
            go_wp2
            go_ret2
            exact ⟨_, by rw [V.out.2]; rfl, by rw [V.out.1]; exact RR.out, hBl.out⟩
          · have k1 : decide ((j : Int) < (la : Int)) = false := decide_eq_false (by omega)
            have k1' : decide (j < la) = false := decide_eq_false (by omega)
            go_wp2
            go_ret2
            exact ⟨_, by rw [V.out.2]; rfl, by rw [V.out.1]; exact RR.out, hBl.out⟩
end Go.Proofs.Ytkonddifmonkcaa
