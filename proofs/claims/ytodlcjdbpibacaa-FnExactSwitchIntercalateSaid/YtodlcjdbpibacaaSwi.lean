/- SwitchIntercalate: the program. -/
import Derived.Test.YtodlcjdbpibacaaSwn
import Derived.Test.YtodlcjdbpibacaaIic
import Derived.Test.YtodlcjdbpibacaaRowc
import Derived.Test.YtodlcjdbpibacaaSet2
namespace Go.Proofs.Ytodlcjdbpibacaa
open Go.RowKit Go.Shelf
set_option linter.unusedVariables false

theorem valid_sq {n : Nat} (h1 : 1 ≤ n) (h2 : n ≤ 10) (xs : List Int) : validSet xs (n : Int) = risesB 0 ((n : Int) - 1) xs := by
  unfold validSet
  rw [decide_eq_true (show (0 : Int) ≤ (n : Int) by omega), decide_eq_true (show (n : Int) ≤ 32 by omega)]
  rfl

/-- The square behind k columns, as the program changes it. -/
def swP (F : Nat → Nat → Int) (r s c d : Nat) : Nat → Nat → Nat → Int
  | 0 => F
  | 1 => sw1 F F r s c
  | _ => sw1 (sw1 F F r s c) (sw1 F F r s c) r s d

set_option maxRecDepth 100000 in
set_option maxHeartbeats 8000000 in
theorem iSwitchIntercalate (xss : List (List Int)) (ys : List Int) (hx : SmallLL xss) (hy : SmallL ys) (W : World) (v u : Value) (hv : RowsAt W v xss) (hu : OwnI W u ys) :
    Calls Try.prog 8 #[v, u] W fun e w' => ∃ r, e = .returned (.tuple #[r, .int .i64 (SwitchIntercalate_1 xss ys)]) ∧ RowsL w' W.heap.size w'.heap.size r (SwitchIntercalate_0 xss ys) ∧ Below W.heap.size W w' := by
  have HA := Lib.hid (ilsq W v xss hv)
  obtain ⟨ua, cap, rfl, hl, KU⟩ := hu.shape
  cases hp : sqB xss with
  | false =>
    have V := Lib.hid (Sw_no (ys := ys) hp)
    rw [hp] at HA
    obtain ⟨m, hm⟩ : ∃ m, ys.length = m := ⟨_, rfl⟩
    rw [hm]
    clear hp hv hu hx hy KU hl hm
    go_enter Try.func8, Try.ntmps8
    go_wp2_with fail
    refine HA.out.mono ?_
    rintro e w1 ⟨n, F, rfl, -, b1⟩
    have st1 := stores_newSq w1 (sqC n F)
    have B2 : Hid (Below W.heap.size W (w1.alloc (.cells (iar 101 (sqC n F)) 38))) := b1.alloc b1.size _
    clear b1
    go_wp2
    go_ret2
    exact ⟨_, by rw [V.out.2]; rfl, by rw [V.out.1]; exact RowsL.nil _ _ _ (Nat.le_refl _), B2.out⟩
  | true =>
    have VB := Lib.hid (fun k => Sw_bad (ys := ys) hp k)
    have VK := Lib.hid (fun k => Sw_ok (ys := ys) hp k)
    have S := of_sqB hp
    rw [hp] at HA
    have nhi := S.hi
    have nlo := S.lo
    obtain ⟨n, hn⟩ : ∃ n, xss.length = n := ⟨_, rfl⟩
    have VL : Hid (swL xss ys = gridL n n (swG (cellF xss) (ys.getD 0 0).toNat (ys.getD 1 0).toNat (ys.getD 2 0).toNat (ys.getD 3 0).toNat)) := by
      unfold Hid swL; rw [hn]
    rw [hn] at HA VB VK nhi nlo
    obtain ⟨f, hf⟩ : ∃ f, cellF xss = f := ⟨_, rfl⟩
    rw [hf] at HA VB VK VL
    have SI := Lib.hid (fun x y hx hy => sqF_in (n := n) f (a := x) (b := y) hx hy)
    obtain ⟨F, hF⟩ : ∃ F, sqF n f = F := ⟨_, rfl⟩
    rw [hF] at HA
    simp only [hF] at SI
    have HB := Lib.hid (fun W' (h : Below W.heap.size W W') => (show IntsAt W' _ ys from hu.at.below h (Nat.le_refl _)))
    clear hp hv hu hx hy S hn hf hF
    by_cases h4 : ys.length = 4
    case neg =>
      have V := Lib.hid (VB.out (swB_not h4))
      obtain ⟨m, hm⟩ : ∃ m, ys.length = m := ⟨_, rfl⟩
      rw [hm] at h4 hl ⊢
      have t1 : ((m : Int) != 4) = true := by simp; omega
      have t1' : (m != 4) = true := by simp; omega
      clear KU VB VK VL HB SI hm
      go_enter Try.func8, Try.ntmps8
      go_wp2_with fail
      refine HA.out.mono ?_
      rintro e w1 ⟨n', F', rfl, hA, b1⟩
      obtain ⟨rfl, rfl⟩ := hA (by trivial)
      have st1 := stores_newSq w1 (sqC n' F')
      have b2 : Below W.heap.size W (w1.alloc (.cells (iar 101 (sqC n' F')) 38)) := b1.alloc b1.size _
      have B2 := Lib.hid b2
      clear hA b1 b2 HA
      go_wp2
      go_quiet (fail)
      go_wp2
      go_ret2
      exact ⟨_, by rw [V.out.2]; rfl, by rw [V.out.1]; exact RowsL.nil _ _ _ (Nat.le_refl _), by first | exact B2.out | exact Go.below_drewN B2.out _ | exact Go.below_drewN (Go.below_drewN B2.out _) _⟩
    obtain ⟨gu, rfl, c4, c5, KU⟩ := KU h4
    obtain ⟨x0, x1, x2, x3, rfl⟩ := four h4
    have E0 : Hid (swB n f [x0, x1, x2, x3] = (risesB 0 ((n : Int) - 1) [x0, x1] && (risesB 0 ((n : Int) - 1) [x2, x3] && (f x0.toNat x2.toNat == f x1.toNat x3.toNat && f x0.toNat x3.toNat == f x1.toNat x2.toNat)))) := swB_four h4
    have I1 : Hid (∀ W', Below W.heap.size W W' → IntsAt W' (.slice (some ⟨gu, 0, none⟩) 2 cap) [x0, x1]) := fun W' hb => ⟨(show 2 ≤ 9223372036854775807 by decide), .inr ⟨gu, 0, cap, rfl, fun j hj => by
      rw [Nat.zero_add]
      match j, hj with
      | 0, _ => exact KU W' hb 0 (by omega)
      | 1, _ => exact KU W' hb 1 (by omega)⟩⟩
    have I2 : Hid (∀ W', Below W.heap.size W W' → IntsAt W' (.slice (some ⟨gu, 2, none⟩) 2 (cap - 2)) [x2, x3]) := fun W' hb => ⟨(show 2 ≤ 9223372036854775807 by decide), .inr ⟨gu, 2, cap - 2, rfl, fun j hj => by
      match j, hj with
      | 0, _ => exact KU W' hb 2 (by omega)
      | 1, _ => exact KU W' hb 3 (by omega)⟩⟩
    have KX : Hid (∀ W', Below W.heap.size W W' → W'.cell? ⟨gu, 0, none⟩ = some (.int .i64 x0) ∧ W'.cell? ⟨gu, 1, none⟩ = some (.int .i64 x1) ∧ W'.cell? ⟨gu, 2, none⟩ = some (.int .i64 x2) ∧ W'.cell? ⟨gu, 3, none⟩ = some (.int .i64 x3)) := fun W' hb =>
      ⟨KU W' hb 0 (by omega), KU W' hb 1 (by omega), KU W' hb 2 (by omega), KU W' hb 3 (by omega)⟩
    have V1 := Lib.hid (fun W' (h : Below W.heap.size W W') => ivalid W' _ [x0, x1] (n : Int) (I1.out W' h))
    have V2 := Lib.hid (fun W' (h : Below W.heap.size W W') => ivalid W' _ [x2, x3] (n : Int) (I2.out W' h))
    simp only [valid_sq nlo nhi] at V1 V2
    have Q : Hid (swB n f [x0, x1, x2, x3] = true → ∃ r s c d : Nat, x0 = r ∧ x1 = s ∧ x2 = c ∧ x3 = d ∧ r < s ∧ s < n ∧ c < d ∧ d < n) := fun h => icB_nums (by rw [swB_four h4] at h; exact h)
    have R1 := Lib.hid (fun h => rises2 (n := n) (a := x0) (b := x1) h)
    have R2 := Lib.hid (fun h => rises2 (n := n) (a := x2) (b := x3) h)
    have HC := Lib.hid (fun V' r s c d h1 h2 h3 h4 => iicl n nhi V' F r s c d h1 h2 h3 h4)
    obtain ⟨t1, ht1⟩ : ∃ r, risesB 0 ((n : Int) - 1) [x0, x1] = r := ⟨_, rfl⟩
    obtain ⟨t2, ht2⟩ : ∃ r, risesB 0 ((n : Int) - 1) [x2, x3] = r := ⟨_, rfl⟩
    rw [ht1] at E0 R1
    rw [ht2] at E0 R2
    simp only [ht1] at V1
    simp only [ht2] at V2
    have cp2 : 2 ≤ cap := by omega
    obtain ⟨z, hz⟩ : ∃ z, swB n f [x0, x1, x2, x3] = z := ⟨_, rfl⟩
    rw [hz] at VB VK E0 Q
    have hl4 : ([x0, x1, x2, x3] : List Int).length = 4 := rfl
    rw [hl4]
    have YL : Hid (swL xss [x0, x1, x2, x3] = gridL n n (swG f x0.toNat x1.toNat x2.toNat x3.toNat)) := VL.out
    clear KU I1 I2 ht1 ht2 hz HB hl h4 hl4 VL
    go_enter Try.func8, Try.ntmps8
    go_wp2_with fail
    refine HA.out.mono ?_
    rintro e w1 ⟨n', F', rfl, hA, b1⟩
    obtain ⟨rfl, rfl⟩ := hA (by trivial)
    have st1 := stores_newSq w1 (sqC n' F')
    have b2 : Below W.heap.size W (w1.alloc (.cells (iar 101 (sqC n' F')) 38)) := b1.alloc b1.size _
    have A2 : SqAt (w1.alloc (.cells (iar 101 (sqC n' F')) 38)) w1.heap.size n' F' := heap_alloc_new _ _
    obtain ⟨g, hg⟩ : ∃ g, w1.heap.size = g := ⟨_, rfl⟩
    have gW : W.heap.size ≤ g := by rw [← hg]; exact b1.size
    obtain ⟨w2, hw2⟩ : ∃ w2, w1.alloc (.cells (iar 101 (sqC n' F')) 38) = w2 := ⟨_, rfl⟩
    rw [hw2] at st1 b2 A2
    rw [hg] at st1 A2
    have X2 := Lib.hid A2
    have o2 := SqAt.order A2
    have B2 := Lib.hid b2
    clear hA b1 b2 A2 HA
    have VQ1 : Hid (∀ k, Calls Try.prog 19 #[.slice (some ⟨gu, 0, none⟩) 2 cap, .int .i64 n'] (w2.drewN k) fun e w' => e = .returned (.bool t1) ∧ w' = w2.drewN k) := fun k => (V1.out _ (Go.below_drewN B2.out k)).mono fun _ _ h => ⟨h.1, h.2.symm⟩
    have VQ2 : Hid (∀ k, Calls Try.prog 19 #[.slice (some ⟨gu, 2, none⟩) 2 (cap - 2), .int .i64 n'] (w2.drewN k) fun e w' => e = .returned (.bool t2) ∧ w' = w2.drewN k) := fun k => (V2.out _ (Go.below_drewN B2.out k)).mono fun _ _ h => ⟨h.1, h.2.symm⟩
    clear V1 V2
    cases t1 with
    | false =>
      have ZF : Hid (z = false) := by have := E0.out; rwa [Bool.false_and] at this
      have V := Lib.hid (VB.out ZF.out)
      clear E0 Q R1 R2 VB VK KX SI HC X2
      go_upto_region 4 with fail
      go_quiet ((go_at_call 19; first | with_reducible exact Calls.quiet_of_same (VQ1.out _) | with_reducible exact quiet_same2 (VQ1.out _) | with_reducible exact Calls.quiet_of_same (VQ2.out _) | with_reducible exact quiet_same2 (VQ2.out _)))
      go_wp2
      go_ret2
      exact ⟨_, by rw [V.out.2]; rfl, by rw [V.out.1]; exact RowsL.nil _ _ _ (Nat.le_refl _), by first | exact B2.out | exact Go.below_drewN B2.out _ | exact Go.below_drewN (Go.below_drewN B2.out _) _⟩
    | true =>
    cases t2 with
    | false =>
      have ZF : Hid (z = false) := by have := E0.out; rwa [Bool.true_and, Bool.false_and] at this
      have V := Lib.hid (VB.out ZF.out)
      clear E0 Q R1 R2 VB VK KX SI HC X2
      go_upto_region 4 with fail
      go_quiet ((go_at_call 19; first | with_reducible exact Calls.quiet_of_same (VQ1.out _) | with_reducible exact quiet_same2 (VQ1.out _) | with_reducible exact Calls.quiet_of_same (VQ2.out _) | with_reducible exact quiet_same2 (VQ2.out _)))
      go_wp2
      go_ret2
      exact ⟨_, by rw [V.out.2]; rfl, by rw [V.out.1]; exact RowsL.nil _ _ _ (Nat.le_refl _), by first | exact B2.out | exact Go.below_drewN B2.out _ | exact Go.below_drewN (Go.below_drewN B2.out _) _⟩
    | true =>
    have ZV : Hid (z = (f x0.toNat x2.toNat == f x1.toNat x3.toNat && f x0.toNat x3.toNat == f x1.toNat x2.toNat)) := by have := E0.out; rwa [Bool.true_and, Bool.true_and] at this
    obtain ⟨⟨a0, a1⟩, a2, a3⟩ := R1.out rfl
    obtain ⟨⟨d0, d1⟩, d2, d3⟩ := R2.out rfl
    obtain ⟨r, rfl⟩ : ∃ r : Nat, x0 = r := ⟨x0.toNat, by omega⟩
    obtain ⟨s, rfl⟩ : ∃ r : Nat, x1 = r := ⟨x1.toNat, by omega⟩
    obtain ⟨c, rfl⟩ : ∃ r : Nat, x2 = r := ⟨x2.toNat, by omega⟩
    obtain ⟨d, rfl⟩ : ∃ r : Nat, x3 = r := ⟨x3.toNat, by omega⟩
    simp only [Int.toNat_natCast] at ZV YL
    have rn : r < n' := by omega
    have sn : s < n' := by omega
    have cn : c < n' := by omega
    have dn : d < n' := by omega
    clear E0 R1 R2 a0 a1 a2 a3 d0 d1 d2 d3
    have SE : Hid (f r c = F' r c ∧ f s d = F' s d ∧ f r d = F' r d ∧ f s c = F' s c) := ⟨(SI.out r c rn cn).symm, (SI.out s d sn dn).symm, (SI.out r d rn dn).symm, (SI.out s c sn cn).symm⟩
    go_upto_region 4 with fail
    go_quiet ((go_at_call 19; first | with_reducible exact Calls.quiet_of_same (VQ1.out _) | with_reducible exact quiet_same2 (VQ1.out _) | with_reducible exact Calls.quiet_of_same (VQ2.out _) | with_reducible exact quiet_same2 (VQ2.out _)))
    revert nq
    intro na
    clear VQ1 VQ2
    obtain ⟨k0, k1, k2, k3⟩ := KX.out w2 B2.out
    have QS0 : Hid (∀ k l, SqAt ((w2.drewN k).drewN l) g n' F' ∧ Below W.heap.size W ((w2.drewN k).drewN l)) := fun k l => ⟨X2.out, Go.below_drewN (Go.below_drewN B2.out k) l⟩
    go_wp2
    go_quiet (fail)
    revert nq
    intro nb
    have QS1 := QS0.out na nb
    obtain ⟨w3, hw3⟩ : ∃ w3, (w2.drewN na).drewN nb = w3 := ⟨_, rfl⟩
    rw [hw3] at QS1 ⊢
    clear hw3 QS0 k0 k1 k2 k3 X2 B2 o2 st1 hw2 hg
    obtain ⟨L, hL⟩ : ∃ L, (iar 101 (sqC n' F')).toList = L := ⟨_, rfl⟩
    have hLA : iar 101 (sqC n' F') = L.toArray := by rw [← hL]
    have iL : (Try.prog.info? 38).map (·.size) = some L.length := by rw [← hL, Array.length_toList, iar_size]; exact Try.infoSq
    have uL := Try.underlying38
    have KY : Hid (∀ V : World, Hid (SqAt V g n' F' ∧ Below W.heap.size W V) → V.rangeAt g 0 L ∧ V.cell? ⟨gu, 2, none⟩ = some (.int .i64 (c : Int)) ∧ V.cell? ⟨gu, 3, none⟩ = some (.int .i64 (d : Int)) ∧ Hid (SqAt V g n' F' ∧ Below W.heap.size W V)) := fun V h => by
      refine ⟨?_, (KX.out V h.out.2).2.2.1, (KX.out V h.out.2).2.2.2, h⟩
      have e : (iar 101 (sqC n' F')).extract 0 (0 + 101) = iar 101 (sqC n' F') := by
        rw [iar_extract 101 _ _ _ (by omega)]
        exact iar_congr (fun i hi => by rw [Nat.zero_add])
      rw [← hL]
      have := World.rangeAt_of_block h.out.1 0 101
      rwa [e] at this
    have XD : Hid (SqAt w3.drew g n' F' ∧ Below W.heap.size W w3.drew) := ⟨QS1.1, QS1.2.drew⟩
    have hgl : g < w3.drew.heap.size := Ia.lt QS1.1
    have zW : W.heap.size ≤ w3.drew.heap.size := QS1.2.drew.size
    have HQ := Lib.hid QS1
    have HCC := Lib.hid (HC.out w3.drew r s c d rn sn cn dn)
    rw [hLA, ← SE.out.1, ← SE.out.2.1, ← SE.out.2.2.1, ← SE.out.2.2.2, ← ZV.out] at HCC
    clear hL QS1 HC ZV
    go_upto_region 7 with fail
    refine wp_region_held_drew (S := fun V => V.rangeAt g 0 L ∧ V.cell? ⟨gu, 2, none⟩ = some (.int .i64 (c : Int)) ∧ V.cell? ⟨gu, 3, none⟩ = some (.int .i64 (d : Int)) ∧ Hid (SqAt V g n' F' ∧ Below W.heap.size W V)) (by kernel_rfl) (KY.out _ XD.out) (fun hHeld => ?_)
    refine wpAnyH_take (i := 0) (oi := { dst := some 44, op := Op.load 38 (Operand.tmp 6), type := 38, pos := "l08_quasigroups.go:248", after := #[], guard := none }) rfl (by kernel_rfl) (by kernel_rfl) (by kernel_rfl) (fun _ _ _ h => h) (yieldsIf_load_mid (by rfl) _ _ rfl g 0 rfl L _ (fun w hSw => hSw.1) uL rfl iL) (by assumption) ?_
    simp only [Act.put, List.setIfInBounds_toArray, List.set_cons_zero, List.set_cons_succ]
    refine wpAnyH_take (i := 1) (oi := { dst := some 45, op := Op.move (Operand.tmp 8), type := 2, pos := "l08_quasigroups.go:248", after := #[], guard := none }) (v := ?_) rfl (by kernel_rfl) (by kernel_rfl) (by kernel_rfl) (fun _ _ _ h => h) (Or.inl ⟨by rfl, ?_⟩) (by assumption) ?_
    rotate_left
    · intro w hSw; (try dsimp only at hSw); go_simp
      try with_reducible rfl
    simp only [Act.put, List.setIfInBounds_toArray, List.set_cons_zero, List.set_cons_succ]
    refine wpAnyH_take (i := 2) (oi := { dst := some 46, op := Op.move (Operand.tmp 9), type := 2, pos := "l08_quasigroups.go:248", after := #[], guard := none }) (v := ?_) rfl (by kernel_rfl) (by kernel_rfl) (by kernel_rfl) (fun _ _ _ h => h) (Or.inl ⟨by rfl, ?_⟩) (by assumption) ?_
    rotate_left
    · intro w hSw; (try dsimp only at hSw); go_simp
      try with_reducible rfl
    simp only [Act.put, List.setIfInBounds_toArray, List.set_cons_zero, List.set_cons_succ]
    refine wpAnyH_take (i := 3) (oi := { dst := some 47, op := Op.move (Operand.tmp 1), type := 23, pos := "l08_quasigroups.go:248", after := #[], guard := none }) (v := ?_) rfl (by kernel_rfl) (by kernel_rfl) (by kernel_rfl) (fun _ _ _ h => h) (Or.inl ⟨by rfl, ?_⟩) (by assumption) ?_
    rotate_left
    · intro w hSw; (try dsimp only at hSw); go_simp
      try with_reducible rfl
    simp only [Act.put, List.setIfInBounds_toArray, List.set_cons_zero, List.set_cons_succ]
    refine wpAnyH_take (i := 4) (oi := { dst := some 48, op := Op.indexAddr 23 (Operand.tmp 47) (Operand.const (Value.int IntKind.i64 2)), type := 0, pos := "l08_quasigroups.go:248", after := #[{ on := 3, ground := Ground.data }], guard := none }) (v := ?_) rfl (by kernel_rfl) (by kernel_rfl) (by kernel_rfl) (fun _ _ _ h => h) (Or.inl ⟨by rfl, ?_⟩) (by assumption) ?_
    rotate_left
    · intro w hSw; (try dsimp only at hSw); go_simp
      try with_reducible rfl
    simp only [Act.put, List.setIfInBounds_toArray, List.set_cons_zero, List.set_cons_succ]
    refine wpAnyH_take (i := 5) (oi := { dst := some 49, op := Op.load 2 (Operand.tmp 48), type := 2, pos := "l08_quasigroups.go:248", after := #[{ on := 4, ground := Ground.data }], guard := none }) (v := ?_) rfl (by kernel_rfl) (by kernel_rfl) (by kernel_rfl) (fun _ _ _ h => h) (Or.inl ⟨by rfl, ?_⟩) (by assumption) ?_
    rotate_left
    · intro w hSw; (try dsimp only at hSw); go_simp
      try with_reducible rfl
    simp only [Act.put, List.setIfInBounds_toArray, List.set_cons_zero, List.set_cons_succ]
    refine wpAnyH_take (i := 6) (oi := { dst := some 50, op := Op.move (Operand.tmp 1), type := 23, pos := "l08_quasigroups.go:248", after := #[], guard := none }) (v := ?_) rfl (by kernel_rfl) (by kernel_rfl) (by kernel_rfl) (fun _ _ _ h => h) (Or.inl ⟨by rfl, ?_⟩) (by assumption) ?_
    rotate_left
    · intro w hSw; (try dsimp only at hSw); go_simp
      try with_reducible rfl
    simp only [Act.put, List.setIfInBounds_toArray, List.set_cons_zero, List.set_cons_succ]
    refine wpAnyH_take (i := 7) (oi := { dst := some 51, op := Op.indexAddr 23 (Operand.tmp 50) (Operand.const (Value.int IntKind.i64 3)), type := 0, pos := "l08_quasigroups.go:248", after := #[{ on := 6, ground := Ground.data }], guard := none }) (v := ?_) rfl (by kernel_rfl) (by kernel_rfl) (by kernel_rfl) (fun _ _ _ h => h) (Or.inl ⟨by rfl, ?_⟩) (by assumption) ?_
    rotate_left
    · intro w hSw; (try dsimp only at hSw); go_simp
      try with_reducible rfl
    simp only [Act.put, List.setIfInBounds_toArray, List.set_cons_zero, List.set_cons_succ]
    refine wpAnyH_take (i := 8) (oi := { dst := some 52, op := Op.load 2 (Operand.tmp 51), type := 2, pos := "l08_quasigroups.go:248", after := #[{ on := 7, ground := Ground.data }], guard := none }) (v := ?_) rfl (by kernel_rfl) (by kernel_rfl) (by kernel_rfl) (fun _ _ _ h => h) (Or.inl ⟨by rfl, ?_⟩) (by assumption) ?_
    rotate_left
    · intro w hSw; (try dsimp only at hSw); go_simp
      try with_reducible rfl
    simp only [Act.put, List.setIfInBounds_toArray, List.set_cons_zero, List.set_cons_succ]
    refine wpAnyH_ready (rs := [9]) (by kernel_rfl) (by simp) ?_
    refine AllReadyH.cons rfl (fun K hK => ?_) AllReadyH.nil
    go_simp
    go_wp2_with fail
    refine HCC.out.mono ?_
    rintro e w4 ⟨rfl, b4⟩
    have X4 : Hid (SqAt w4 g n' F' ∧ Below W.heap.size W w4) := ⟨SqAt.below XD.out.1 b4 hgl, XD.out.2.trans (b4.mono zW)⟩
    clear b4
    refine hK.out _ _ (KY.out _ X4) (fun hHeld => ?_)
    clear hK K
    refine wpAnyH_take (i := 10) (oi := { dst := some 54, op := Op.unOp UnOp.not 4 (Operand.tmp 53), type := 4, pos := "l08_quasigroups.go:248", after := #[{ on := 9, ground := Ground.data }], guard := none }) (v := ?_) rfl (by kernel_rfl) (by kernel_rfl) (by kernel_rfl) (fun _ _ _ h => h) (Or.inl ⟨by rfl, ?_⟩) (by assumption) ?_
    rotate_left
    · intro w hSw; (try dsimp only at hSw); go_simp
      try with_reducible rfl
    simp only [Act.put, List.setIfInBounds_toArray, List.set_cons_zero, List.set_cons_succ]
    refine wpAnyH_done (by kernel_rfl) ?_ _
    clear hHeld HCC XD hgl zW HQ
    cases z with
    | false =>
      have V := Lib.hid (VB.out rfl)
      have B4 := Lib.hid X4.out.2
      clear X4 KY VB VK KX Q
      go_wp2
      go_ret2
      exact ⟨_, by rw [V.out.2]; rfl, by rw [V.out.1]; exact RowsL.nil _ _ _ (Nat.le_refl _), B4.out⟩
    | true =>
    have V := Lib.hid (VK.out rfl)
    obtain ⟨r', s', c', d', e1, e2, e3, e4, l1, l2, l3, l4⟩ := Q.out rfl
    have cd : c ≠ d := by omega
    have GE : Hid (gridL n' n' (swP F' r s c d 2) = swL xss [(r : Int), (s : Int), (c : Int), (d : Int)]) := by
      unfold Hid
      rw [YL.out]
      refine gridL_congr fun x y hx hy => ?_
      show sw1 (sw1 F' F' r s c) (sw1 F' F' r s c) r s d x y = _
      rw [sw1_two cd]
      simp only [swG, sw1, upd2, SI.out x y hx hy, SI.out r c rn cn, SI.out s d sn dn, SI.out r d rn dn, SI.out s c sn cn]
    have KI : Hid (∀ V : World, Below W.heap.size W V → ∀ k, k < 2 → V.cell? ⟨gu, 2 + k, none⟩ = some (.int .i64 ((if k = 0 then c else d : Nat) : Int))) := fun V hb k hk => by
      match k, hk with
      | 0, _ => exact (KX.out V hb).2.2.1
      | 1, _ => exact (KX.out V hb).2.2.2
    have SK : Hid (∀ k, k < 2 → swP F' r s c d (k + 1) = sw1 (swP F' r s c d k) (swP F' r s c d k) r s (if k = 0 then c else d)) := fun k hk => by
      match k, hk with
      | 0, _ => rfl
      | 1, _ => rfl
    have CN : Hid (∀ k, (if k = 0 then c else d : Nat) < 10) := fun k => by split <;> omega
    have S0 : Hid (SqAt w4 g n' (swP F' r s c d 0)) := X4.out.1
    have B4 : Hid (Below W.heap.size W w4) := X4.out.2
    have r0 : (0 : Int) ≤ (r : Int) := by omega
    have r1 : (r : Int) < 10 := by omega
    have s0 : (0 : Int) ≤ (s : Int) := by omega
    have s1 : (s : Int) < 10 := by omega
    have HRW := Lib.hid (fun V G => irows2 n' nhi V G)
    clear X4 KY VB VK KX Q e1 e2 e3 e4 l1 l2 l3 l4 SE SI YL cd iL hLA uL
    go_wp2
    go_loopw [58] (fun i wr => ∃ k : Nat, k ≤ 2 ∧ i = .int .i64 k ∧ Hid (SqAt wr g n' (swP F' r s c d k)) ∧ Hid (Below W.heap.size W wr)) (fun i _ => 2 - (intOf i).toNat)
    case atStart => exact ⟨0, by omega, rfl, S0, B4⟩
    case round =>
      obtain ⟨k, hk, rfl, hS, hM⟩ := hrel
      by_cases c1 : k < 2
      · have k1 : decide ((k : Int) < 2) = true := decide_eq_true (by omega)
        have k1' : decide (k < 2) = true := decide_eq_true c1
        have k2 : (0 : Int) ≤ (k : Int) := by omega
        have k3 : (k : Int) < 2 := by omega
        have wr1 := IntWalk.i64_in ((k : Int) + 1) (by omega)
        obtain ⟨wd, hwd⟩ : ∃ wd, wr.drew = wd := ⟨_, rfl⟩
        have q2 := KI.out wr hM.out k c1
        have yn := CN.out k
        have sk := Lib.hid (SK.out k c1)
        obtain ⟨y, hy⟩ : ∃ y : Nat, (if k = 0 then c else d) = y := ⟨_, rfl⟩
        rw [hy] at q2 yn sk
        obtain ⟨G, hG⟩ : ∃ G, swP F' r s c d k = G := ⟨_, rfl⟩
        rw [hG] at hS sk
        have y0 : (0 : Int) ≤ (y : Int) := by omega
        have y1 : (y : Int) < 10 := by omega
        have D1 : SqAt wd g n' G := by rw [← hwd]; exact hS.out
        have BD : Below W.heap.size W wd := by rw [← hwd]; exact (show Below W.heap.size W wr from hM.out).drew
        have p1 : wd.cell? ⟨g, 1 + s * 10 + y, none⟩ = some (.int .i64 (G s y)) := by rw [Ia.cell D1 (1 + s * 10 + y) (by omega), sqC_at _ _ yn]
        have p2 : wd.cell? ⟨g, 1 + r * 10 + y, none⟩ = some (.int .i64 (G r y)) := by rw [Ia.cell D1 (1 + r * 10 + y) (by omega), sqC_at _ _ yn]
        have p3 : wd.frozen? ⟨g, 1 + r * 10 + y, none⟩ = false := Ia.frozen D1 _
        have D2 : SqAt (wd.setCell ⟨g, 1 + r * 10 + y, none⟩ (.int .i64 (G s y))) g n' (upd2 G r y (G s y)) := by
          have := Ia.set D1 (1 + r * 10 + y) (G s y)
          rwa [sqC_upd _ _ _ yn] at this
        have p4 : (wd.setCell ⟨g, 1 + r * 10 + y, none⟩ (.int .i64 (G s y))).cell? ⟨g, 1 + s * 10 + y, none⟩ = some (.int .i64 (upd2 G r y (G s y) s y)) := by rw [Ia.cell D2 (1 + s * 10 + y) (by omega), sqC_at _ _ yn]
        have p5 : (wd.setCell ⟨g, 1 + r * 10 + y, none⟩ (.int .i64 (G s y))).frozen? ⟨g, 1 + s * 10 + y, none⟩ = false := Ia.frozen D2 _
        have D3 : Hid (SqAt ((wd.setCell ⟨g, 1 + r * 10 + y, none⟩ (.int .i64 (G s y))).setCell ⟨g, 1 + s * 10 + y, none⟩ (.int .i64 (G r y))) g n' (swP F' r s c d (k + 1))) := by
          have := Ia.set D2 (1 + s * 10 + y) (G r y)
          rw [sqC_upd _ _ _ yn] at this
          unfold Hid
          rw [sk.out]
          exact this
        have B3 : Hid (Below W.heap.size W ((wd.setCell ⟨g, 1 + r * 10 + y, none⟩ (.int .i64 (G s y))).setCell ⟨g, 1 + s * 10 + y, none⟩ (.int .i64 (G r y)))) := (BD.setCell (p := ⟨g, 1 + r * 10 + y, none⟩) gW _).setCell (p := ⟨g, 1 + s * 10 + y, none⟩) gW _
        obtain ⟨u1, hu1⟩ : ∃ z, G s y = z := ⟨_, rfl⟩
        obtain ⟨u2, hu2⟩ : ∃ z, G r y = z := ⟨_, rfl⟩
        obtain ⟨u3, hu3⟩ : ∃ z, upd2 G r y (G s y) s y = z := ⟨_, rfl⟩
        rw [hu3] at p4
        simp only [hu1, hu2] at p1 p2 p4 p5 D3 B3
        clear hu1 hu2 hu3 D1 D2 BD hG hy sk hS
        go_upto_region 12 with fail
        refine wp_region_held_drew (S := fun _ => True) (by kernel_rfl) trivial (fun hHeld => ?_)
        refine wpAnyH_take (i := 0) (oi := { dst := some 62, op := Op.move (Operand.tmp 8), type := 2, pos := "l08_quasigroups.go:252", after := #[], guard := none }) (v := ?_) rfl (by kernel_rfl) (by kernel_rfl) (by kernel_rfl) (fun _ _ _ h => h) (Or.inl ⟨by rfl, ?_⟩) (by assumption) ?_
        rotate_left
        · intro w hSw; (try dsimp only at hSw); go_simp
          try with_reducible rfl
        simp only [Act.put, List.setIfInBounds_toArray, List.set_cons_zero, List.set_cons_succ]
        refine wpAnyH_take (i := 1) (oi := { dst := some 63, op := Op.move (Operand.tmp 11), type := 2, pos := "l08_quasigroups.go:252", after := #[], guard := none }) (v := ?_) rfl (by kernel_rfl) (by kernel_rfl) (by kernel_rfl) (fun _ _ _ h => h) (Or.inl ⟨by rfl, ?_⟩) (by assumption) ?_
        rotate_left
        · intro w hSw; (try dsimp only at hSw); go_simp
          try with_reducible rfl
        simp only [Act.put, List.setIfInBounds_toArray, List.set_cons_zero, List.set_cons_succ]
        refine wpAnyH_take (i := 2) (oi := { dst := some 64, op := Op.move (Operand.tmp 9), type := 2, pos := "l08_quasigroups.go:252", after := #[{ on := 19, ground := Ground.gcOnly Departure.lateStores }], guard := none }) (v := ?_) rfl (by kernel_rfl) (by kernel_rfl) (by kernel_rfl) (fun _ _ _ h => h) (Or.inl ⟨by rfl, ?_⟩) (by assumption) ?_
        rotate_left
        · intro w hSw; (try dsimp only at hSw); go_simp
          try with_reducible rfl
        simp only [Act.put, List.setIfInBounds_toArray, List.set_cons_zero, List.set_cons_succ]
        refine wpAnyH_take (i := 3) (oi := { dst := some 65, op := Op.move (Operand.tmp 11), type := 2, pos := "l08_quasigroups.go:252", after := #[{ on := 19, ground := Ground.gcOnly Departure.lateStores }], guard := none }) (v := ?_) rfl (by kernel_rfl) (by kernel_rfl) (by kernel_rfl) (fun _ _ _ h => h) (Or.inl ⟨by rfl, ?_⟩) (by assumption) ?_
        rotate_left
        · intro w hSw; (try dsimp only at hSw); go_simp
          try with_reducible rfl
        simp only [Act.put, List.setIfInBounds_toArray, List.set_cons_zero, List.set_cons_succ]
        refine wpAnyH_take (i := 4) (oi := { dst := some 66, op := Op.move (Operand.tmp 9), type := 2, pos := "l08_quasigroups.go:252", after := #[], guard := none }) (v := ?_) rfl (by kernel_rfl) (by kernel_rfl) (by kernel_rfl) (fun _ _ _ h => h) (Or.inl ⟨by rfl, ?_⟩) (by assumption) ?_
        rotate_left
        · intro w hSw; (try dsimp only at hSw); go_simp
          try with_reducible rfl
        simp only [Act.put, List.setIfInBounds_toArray, List.set_cons_zero, List.set_cons_succ]
        refine wpAnyH_take (i := 5) (oi := { dst := some 67, op := Op.move (Operand.tmp 11), type := 2, pos := "l08_quasigroups.go:252", after := #[], guard := none }) (v := ?_) rfl (by kernel_rfl) (by kernel_rfl) (by kernel_rfl) (fun _ _ _ h => h) (Or.inl ⟨by rfl, ?_⟩) (by assumption) ?_
        rotate_left
        · intro w hSw; (try dsimp only at hSw); go_simp
          try with_reducible rfl
        simp only [Act.put, List.setIfInBounds_toArray, List.set_cons_zero, List.set_cons_succ]
        refine wpAnyH_take (i := 6) (oi := { dst := some 68, op := Op.fieldAddr 38 (Operand.tmp 6) 1, type := 0, pos := "l08_quasigroups.go:252", after := #[], guard := none }) (v := ?_) rfl (by kernel_rfl) (by kernel_rfl) (by kernel_rfl) (fun _ _ _ h => h) (Or.inl ⟨by rfl, ?_⟩) (by assumption) ?_
        rotate_left
        · intro w hSw; (try dsimp only at hSw); go_simp
          try with_reducible rfl
        simp only [Act.put, List.setIfInBounds_toArray, List.set_cons_zero, List.set_cons_succ]
        refine wpAnyH_take (i := 7) (oi := { dst := some 69, op := Op.indexAddr 36 (Operand.tmp 68) (Operand.tmp 66), type := 0, pos := "l08_quasigroups.go:252", after := #[{ on := 6, ground := Ground.data }, { on := 4, ground := Ground.data }], guard := none }) (v := ?_) rfl (by kernel_rfl) (by kernel_rfl) (by kernel_rfl) (fun _ _ _ h => h) (Or.inl ⟨by rfl, ?_⟩) (by assumption) ?_
        rotate_left
        · intro w hSw; (try dsimp only at hSw); go_simp
          try with_reducible rfl
        simp only [Act.put, List.setIfInBounds_toArray, List.set_cons_zero, List.set_cons_succ]
        refine wpAnyH_take (i := 8) (oi := { dst := some 70, op := Op.indexAddr 34 (Operand.tmp 69) (Operand.tmp 67), type := 0, pos := "l08_quasigroups.go:252", after := #[{ on := 7, ground := Ground.data }, { on := 5, ground := Ground.data }], guard := none }) (v := ?_) rfl (by kernel_rfl) (by kernel_rfl) (by kernel_rfl) (fun _ _ _ h => h) (Or.inl ⟨by rfl, ?_⟩) (by assumption) ?_
        rotate_left
        · intro w hSw; (try dsimp only at hSw); go_simp
          try with_reducible rfl
        simp only [Act.put, List.setIfInBounds_toArray, List.set_cons_zero, List.set_cons_succ]
        refine wpAnyH_take (i := 10) (oi := { dst := some 72, op := Op.move (Operand.tmp 8), type := 2, pos := "l08_quasigroups.go:252", after := #[], guard := none }) (v := ?_) rfl (by kernel_rfl) (by kernel_rfl) (by kernel_rfl) (fun _ _ _ h => h) (Or.inl ⟨by rfl, ?_⟩) (by assumption) ?_
        rotate_left
        · intro w hSw; (try dsimp only at hSw); go_simp
          try with_reducible rfl
        simp only [Act.put, List.setIfInBounds_toArray, List.set_cons_zero, List.set_cons_succ]
        refine wpAnyH_take (i := 11) (oi := { dst := some 73, op := Op.move (Operand.tmp 11), type := 2, pos := "l08_quasigroups.go:252", after := #[], guard := none }) (v := ?_) rfl (by kernel_rfl) (by kernel_rfl) (by kernel_rfl) (fun _ _ _ h => h) (Or.inl ⟨by rfl, ?_⟩) (by assumption) ?_
        rotate_left
        · intro w hSw; (try dsimp only at hSw); go_simp
          try with_reducible rfl
        simp only [Act.put, List.setIfInBounds_toArray, List.set_cons_zero, List.set_cons_succ]
        refine wpAnyH_take (i := 12) (oi := { dst := some 74, op := Op.fieldAddr 38 (Operand.tmp 6) 1, type := 0, pos := "l08_quasigroups.go:252", after := #[], guard := none }) (v := ?_) rfl (by kernel_rfl) (by kernel_rfl) (by kernel_rfl) (fun _ _ _ h => h) (Or.inl ⟨by rfl, ?_⟩) (by assumption) ?_
        rotate_left
        · intro w hSw; (try dsimp only at hSw); go_simp
          try with_reducible rfl
        simp only [Act.put, List.setIfInBounds_toArray, List.set_cons_zero, List.set_cons_succ]
        refine wpAnyH_take (i := 13) (oi := { dst := some 75, op := Op.indexAddr 36 (Operand.tmp 74) (Operand.tmp 72), type := 0, pos := "l08_quasigroups.go:252", after := #[{ on := 12, ground := Ground.data }, { on := 10, ground := Ground.data }], guard := none }) (v := ?_) rfl (by kernel_rfl) (by kernel_rfl) (by kernel_rfl) (fun _ _ _ h => h) (Or.inl ⟨by rfl, ?_⟩) (by assumption) ?_
        rotate_left
        · intro w hSw; (try dsimp only at hSw); go_simp
          try with_reducible rfl
        simp only [Act.put, List.setIfInBounds_toArray, List.set_cons_zero, List.set_cons_succ]
        refine wpAnyH_take (i := 14) (oi := { dst := some 76, op := Op.indexAddr 34 (Operand.tmp 75) (Operand.tmp 73), type := 0, pos := "l08_quasigroups.go:252", after := #[{ on := 13, ground := Ground.data }, { on := 11, ground := Ground.data }], guard := none }) (v := ?_) rfl (by kernel_rfl) (by kernel_rfl) (by kernel_rfl) (fun _ _ _ h => h) (Or.inl ⟨by rfl, ?_⟩) (by assumption) ?_
        rotate_left
        · intro w hSw; (try dsimp only at hSw); go_simp
          try with_reducible rfl
        simp only [Act.put, List.setIfInBounds_toArray, List.set_cons_zero, List.set_cons_succ]
        refine wpAnyH_take (i := 16) (oi := { dst := some 78, op := Op.fieldAddr 38 (Operand.tmp 6) 1, type := 0, pos := "l08_quasigroups.go:252", after := #[], guard := none }) (v := ?_) rfl (by kernel_rfl) (by kernel_rfl) (by kernel_rfl) (fun _ _ _ h => h) (Or.inl ⟨by rfl, ?_⟩) (by assumption) ?_
        rotate_left
        · intro w hSw; (try dsimp only at hSw); go_simp
          try with_reducible rfl
        simp only [Act.put, List.setIfInBounds_toArray, List.set_cons_zero, List.set_cons_succ]
        refine wpAnyH_take (i := 17) (oi := { dst := some 79, op := Op.indexAddr 36 (Operand.tmp 78) (Operand.tmp 62), type := 0, pos := "l08_quasigroups.go:252", after := #[{ on := 16, ground := Ground.data }, { on := 0, ground := Ground.data }], guard := none }) (v := ?_) rfl (by kernel_rfl) (by kernel_rfl) (by kernel_rfl) (fun _ _ _ h => h) (Or.inl ⟨by rfl, ?_⟩) (by assumption) ?_
        rotate_left
        · intro w hSw; (try dsimp only at hSw); go_simp
          try with_reducible rfl
        simp only [Act.put, List.setIfInBounds_toArray, List.set_cons_zero, List.set_cons_succ]
        refine wpAnyH_take (i := 20) (oi := { dst := some 81, op := Op.fieldAddr 38 (Operand.tmp 6) 1, type := 0, pos := "l08_quasigroups.go:252", after := #[], guard := none }) (v := ?_) rfl (by kernel_rfl) (by kernel_rfl) (by kernel_rfl) (fun _ _ _ h => h) (Or.inl ⟨by rfl, ?_⟩) (by assumption) ?_
        rotate_left
        · intro w hSw; (try dsimp only at hSw); go_simp
          try with_reducible rfl
        simp only [Act.put, List.setIfInBounds_toArray, List.set_cons_zero, List.set_cons_succ]
        refine wpAnyH_take (i := 21) (oi := { dst := some 82, op := Op.indexAddr 36 (Operand.tmp 81) (Operand.tmp 64), type := 0, pos := "l08_quasigroups.go:252", after := #[{ on := 20, ground := Ground.data }, { on := 2, ground := Ground.data }], guard := none }) (v := ?_) rfl (by kernel_rfl) (by kernel_rfl) (by kernel_rfl) (fun _ _ _ h => h) (Or.inl ⟨by rfl, ?_⟩) (by assumption) ?_
        rotate_left
        · intro w hSw; (try dsimp only at hSw); go_simp
          try with_reducible rfl
        simp only [Act.put, List.setIfInBounds_toArray, List.set_cons_zero, List.set_cons_succ]
        refine wpAnyH_ready (rs := [9, 15]) (by kernel_rfl) (by simp) ?_
        refine AllReadyH.cons rfl (fun K hK => ?_) ?_
        · rw [hwd]
          go_simp
          refine hK.out _ _ trivial (fun hHeld => ?_)
          clear hK K
          refine wpAnyH_ready (rs := [15]) (by kernel_rfl) (by simp) ?_
          refine AllReadyH.cons rfl (fun K hK => ?_) AllReadyH.nil
          go_simp
          refine hK.out _ _ trivial (fun hHeld => ?_)
          clear hK K
          refine wpAnyH_take (i := 18) (oi := { dst := some 80, op := Op.indexAddr 34 (Operand.tmp 79) (Operand.tmp 63), type := 0, pos := "l08_quasigroups.go:252", after := #[{ on := 17, ground := Ground.data }, { on := 1, ground := Ground.data }, { on := 0, ground := Ground.phase }, { on := 1, ground := Ground.phase }, { on := 2, ground := Ground.textOnly Departure.lateStores }, { on := 3, ground := Ground.textOnly Departure.lateStores }, { on := 4, ground := Ground.phase }, { on := 5, ground := Ground.phase }, { on := 6, ground := Ground.phase }, { on := 7, ground := Ground.phase }, { on := 8, ground := Ground.phase }, { on := 9, ground := Ground.phase }, { on := 10, ground := Ground.textOnly Departure.lateStores }, { on := 11, ground := Ground.textOnly Departure.lateStores }, { on := 12, ground := Ground.phase }, { on := 13, ground := Ground.phase }, { on := 14, ground := Ground.phase }, { on := 15, ground := Ground.phase }], guard := none }) (v := ?_) rfl (by kernel_rfl) (by kernel_rfl) (by kernel_rfl) (fun _ _ _ h => h) (Or.inl ⟨by rfl, ?_⟩) (by assumption) ?_
          rotate_left
          · intro w hSw; (try dsimp only at hSw); go_simp
            try with_reducible rfl
          simp only [Act.put, List.setIfInBounds_toArray, List.set_cons_zero, List.set_cons_succ]
          refine wpAnyH_ready (rs := [19]) (by kernel_rfl) (by simp) ?_
          refine AllReadyH.cons rfl (fun K hK => ?_) AllReadyH.nil
          go_simp
          refine hK.out _ _ trivial (fun hHeld => ?_)
          clear hK K
          refine wpAnyH_take (i := 22) (oi := { dst := some 83, op := Op.indexAddr 34 (Operand.tmp 82) (Operand.tmp 65), type := 0, pos := "l08_quasigroups.go:252", after := #[{ on := 21, ground := Ground.data }, { on := 3, ground := Ground.data }, { on := 0, ground := Ground.phase }, { on := 1, ground := Ground.phase }, { on := 2, ground := Ground.phase }, { on := 3, ground := Ground.phase }, { on := 4, ground := Ground.phase }, { on := 5, ground := Ground.phase }, { on := 6, ground := Ground.phase }, { on := 7, ground := Ground.phase }, { on := 8, ground := Ground.phase }, { on := 9, ground := Ground.phase }, { on := 10, ground := Ground.phase }, { on := 11, ground := Ground.phase }, { on := 12, ground := Ground.phase }, { on := 13, ground := Ground.phase }, { on := 14, ground := Ground.phase }, { on := 15, ground := Ground.phase }, { on := 16, ground := Ground.phase }, { on := 17, ground := Ground.phase }, { on := 18, ground := Ground.phase }, { on := 19, ground := Ground.phase }], guard := none }) (v := ?_) rfl (by kernel_rfl) (by kernel_rfl) (by kernel_rfl) (fun _ _ _ h => h) (Or.inl ⟨by rfl, ?_⟩) (by assumption) ?_
          rotate_left
          · intro w hSw; (try dsimp only at hSw); go_simp
            try with_reducible rfl
          simp only [Act.put, List.setIfInBounds_toArray, List.set_cons_zero, List.set_cons_succ]
          refine wpAnyH_ready (rs := [23]) (by kernel_rfl) (by simp) ?_
          refine AllReadyH.cons rfl (fun K hK => ?_) AllReadyH.nil
          go_simp
          refine hK.out _ _ trivial (fun hHeld => ?_)
          clear hK K
          refine wpAnyH_done (by kernel_rfl) ?_ _
          clear hHeld p1 p2 p3 p4 p5
          go_wp2
          refine ⟨⟨_, _, _, _, _, _, _, _, _, _, _, _, _, _, _, _, _, _, _, _, _, _, _, _, _, _, _, _, ?rel, rfl⟩, ?measure⟩
          case rel => exact ⟨k + 1, by omega, by go_num, D3, B3⟩
          case measure => simp [intOf]; omega
        refine AllReadyH.cons rfl (fun K hK => ?_) ?_
        · rw [hwd]
          go_simp
          refine hK.out _ _ trivial (fun hHeld => ?_)
          clear hK K
          refine wpAnyH_ready (rs := [9]) (by kernel_rfl) (by simp) ?_
          refine AllReadyH.cons rfl (fun K hK => ?_) AllReadyH.nil
          go_simp
          refine hK.out _ _ trivial (fun hHeld => ?_)
          clear hK K
          refine wpAnyH_take (i := 18) (oi := { dst := some 80, op := Op.indexAddr 34 (Operand.tmp 79) (Operand.tmp 63), type := 0, pos := "l08_quasigroups.go:252", after := #[{ on := 17, ground := Ground.data }, { on := 1, ground := Ground.data }, { on := 0, ground := Ground.phase }, { on := 1, ground := Ground.phase }, { on := 2, ground := Ground.textOnly Departure.lateStores }, { on := 3, ground := Ground.textOnly Departure.lateStores }, { on := 4, ground := Ground.phase }, { on := 5, ground := Ground.phase }, { on := 6, ground := Ground.phase }, { on := 7, ground := Ground.phase }, { on := 8, ground := Ground.phase }, { on := 9, ground := Ground.phase }, { on := 10, ground := Ground.textOnly Departure.lateStores }, { on := 11, ground := Ground.textOnly Departure.lateStores }, { on := 12, ground := Ground.phase }, { on := 13, ground := Ground.phase }, { on := 14, ground := Ground.phase }, { on := 15, ground := Ground.phase }], guard := none }) (v := ?_) rfl (by kernel_rfl) (by kernel_rfl) (by kernel_rfl) (fun _ _ _ h => h) (Or.inl ⟨by rfl, ?_⟩) (by assumption) ?_
          rotate_left
          · intro w hSw; (try dsimp only at hSw); go_simp
            try with_reducible rfl
          simp only [Act.put, List.setIfInBounds_toArray, List.set_cons_zero, List.set_cons_succ]
          refine wpAnyH_ready (rs := [19]) (by kernel_rfl) (by simp) ?_
          refine AllReadyH.cons rfl (fun K hK => ?_) AllReadyH.nil
          go_simp
          refine hK.out _ _ trivial (fun hHeld => ?_)
          clear hK K
          refine wpAnyH_take (i := 22) (oi := { dst := some 83, op := Op.indexAddr 34 (Operand.tmp 82) (Operand.tmp 65), type := 0, pos := "l08_quasigroups.go:252", after := #[{ on := 21, ground := Ground.data }, { on := 3, ground := Ground.data }, { on := 0, ground := Ground.phase }, { on := 1, ground := Ground.phase }, { on := 2, ground := Ground.phase }, { on := 3, ground := Ground.phase }, { on := 4, ground := Ground.phase }, { on := 5, ground := Ground.phase }, { on := 6, ground := Ground.phase }, { on := 7, ground := Ground.phase }, { on := 8, ground := Ground.phase }, { on := 9, ground := Ground.phase }, { on := 10, ground := Ground.phase }, { on := 11, ground := Ground.phase }, { on := 12, ground := Ground.phase }, { on := 13, ground := Ground.phase }, { on := 14, ground := Ground.phase }, { on := 15, ground := Ground.phase }, { on := 16, ground := Ground.phase }, { on := 17, ground := Ground.phase }, { on := 18, ground := Ground.phase }, { on := 19, ground := Ground.phase }], guard := none }) (v := ?_) rfl (by kernel_rfl) (by kernel_rfl) (by kernel_rfl) (fun _ _ _ h => h) (Or.inl ⟨by rfl, ?_⟩) (by assumption) ?_
          rotate_left
          · intro w hSw; (try dsimp only at hSw); go_simp
            try with_reducible rfl
          simp only [Act.put, List.setIfInBounds_toArray, List.set_cons_zero, List.set_cons_succ]
          refine wpAnyH_ready (rs := [23]) (by kernel_rfl) (by simp) ?_
          refine AllReadyH.cons rfl (fun K hK => ?_) AllReadyH.nil
          go_simp
          refine hK.out _ _ trivial (fun hHeld => ?_)
          clear hK K
          refine wpAnyH_done (by kernel_rfl) ?_ _
          clear hHeld p1 p2 p3 p4 p5
          go_wp2
          refine ⟨⟨_, _, _, _, _, _, _, _, _, _, _, _, _, _, _, _, _, _, _, _, _, _, _, _, _, _, _, _, ?rel, rfl⟩, ?measure⟩
          case rel => exact ⟨k + 1, by omega, by go_num, D3, B3⟩
          case measure => simp [intOf]; omega
        exact AllReadyH.nil
      · have k1 : decide ((k : Int) < 2) = false := decide_eq_false (by omega)
        have k1' : decide (k < 2) = false := decide_eq_false (by omega)
        obtain rfl : k = 2 := by omega
        obtain ⟨G, hG⟩ : ∃ G, swP F' r s c d 2 = G := ⟨_, rfl⟩
        rw [hG] at hS GE
        have HW := Lib.hid (HRW.out wr G)
        rw [GE.out] at HW
        have XQ := hS
        clear HRW hG KI SK CN S0 B4
        go_wp2_with fail
        refine wp_load_row 38 (.tmp 6) rfl _ rfl _ _ _ _ XQ.out Try.underlying38 rfl (by rw [iar_size]; exact Try.infoSq) ?_
        go_wp2_with fail
        refine HW.out.mono ?_
        rintro e w5 ⟨rr, rfl, r5, b5⟩
        have R5 := Lib.hid (r5.mono (B' := W.heap.size) hM.out.size (Nat.le_refl _) (Nat.le_refl _))
        have B5 := Lib.hid (t_chain hM.out b5)
        clear r5 b5
        go_wp2
        go_ret2
        exact ⟨_, by rw [V.out.2]; rfl, by rw [V.out.1]; exact R5.out, B5.out⟩
end Go.Proofs.Ytodlcjdbpibacaa
