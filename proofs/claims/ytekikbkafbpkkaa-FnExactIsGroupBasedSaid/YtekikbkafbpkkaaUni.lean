/- UnitOf and IsGroupBased: both exported functions. -/
import Derived.Test.YtekikbkafbpkkaaQgi
import Derived.Test.YtekikbkafbpkkaaQgs
namespace Go.Proofs.Ytekikbkafbpkkaa
open Go.RowKit Go.Shelf
set_option linter.unusedVariables false

def bothB (n : Nat) (f : Nat → Nat → Int) (e : Nat) : Bool := lftB n f e && rgtB n f e
noncomputable def unitO (xss : List (List Int)) : Option Nat := if sqB xss = true then fstN xss.length (bothB xss.length (cellF xss)) else none
noncomputable def UnitOf_0 (xss : List (List Int)) : Int := optI (unitO xss)
noncomputable def UnitOf_1 (xss : List (List Int)) : Bool := (unitO xss).isSome
theorem unitO_bad {xss : List (List Int)} (h : sqB xss = false) : unitO xss = none := by unfold unitO; rw [h]; rfl
theorem unitO_ok {xss : List (List Int)} (h : sqB xss = true) : unitO xss = fstN xss.length (bothB xss.length (cellF xss)) := by unfold unitO; rw [h]; rfl
noncomputable def IsGroupBased_0 (xss : List (List Int)) : Bool := sqB xss && assB xss.length (redF xss.length (cellF xss))

set_option maxRecDepth 100000 in
set_option maxHeartbeats 4000000 in
theorem sUnitOf (xss : List (List Int)) (hx : SmallLL xss) (w : World) (v : Value) (hv : RowsAt w v xss) :
    Calls Try.prog 22 #[v] w fun e w' => e = .returned (.tuple #[.int .i64 (UnitOf_0 xss), .bool (UnitOf_1 xss)]) ∧ Below w.heap.size w w' := by
  have HS := Lib.hid (sSq w v xss hv)
  have e0 : UnitOf_0 xss = optI (unitO xss) := rfl
  have e1 : UnitOf_1 xss = (unitO xss).isSome := rfl
  rw [e0, e1]
  clear e0 e1
  cases hp : sqB xss with
  | false =>
    obtain ⟨va, vk, rfl, -, -⟩ := hv.cellsOf
    rw [unitO_bad hp]
    rw [hp] at HS
    clear hp hv
    go_enter Try.func22, Try.ntmps22
    go_wp2_with fail
    refine HS.out.mono ?_
    rintro e w1 ⟨rfl, b1⟩
    have B1 := Lib.hid b1
    clear b1
    go_wp2
    go_ret2
    exact ⟨rfl, B1.out⟩
  | true =>
    rw [unitO_ok hp]
    have S := of_sqB hp
    rw [hp] at HS
    have nhi := S.hi
    have nlo := S.lo
    have RL := Lib.hid S.rowLen
    have hml := hv.1
    have HV := Lib.hid (fun W (b : Below w.heap.size w W) => hv.below b (Nat.le_refl _))
    obtain ⟨va, vk, rfl, -, -⟩ := hv.cellsOf
    obtain ⟨n, hn⟩ : ∃ n, xss.length = n := ⟨_, rfl⟩
    rw [hn] at HS nhi nlo RL HV hml ⊢
    have HL := Lib.hid (fun W (b : Below w.heap.size w W) e (he : e < n) => sUnit_true W _ xss n hn nhi RL.out (HV.out W b) e he)
    have HR := Lib.hid (fun W (b : Below w.heap.size w W) e (he : e < n) => sUnit_false W _ xss n hn nhi RL.out (HV.out W b) e he)
    have FN : Hid ((∀ k, k < n → bothB n (cellF xss) k = false) → fstN n (bothB n (cellF xss)) = none) := fstN_none
    have FS : Hid (∀ e, e < n → bothB n (cellF xss) e = true → (∀ k, k < e → bothB n (cellF xss) k = false) → fstN n (bothB n (cellF xss)) = some e) := fun e => fstN_some
    have BB : Hid (∀ e, bothB n (cellF xss) e = (lftB n (cellF xss) e && rgtB n (cellF xss) e)) := fun e => rfl
    obtain ⟨V, hV⟩ : ∃ V, fstN n (bothB n (cellF xss)) = V := ⟨_, rfl⟩
    rw [hV] at FN FS ⊢
    clear hp hv S hn hV
    go_enter Try.func22, Try.ntmps22
    go_wp2_with fail
    refine HS.out.mono ?_
    rintro e w1 ⟨rfl, b1⟩
    have B1 := Lib.hid b1
    clear b1
    go_wp2
    go_loop [4] (fun i => ∃ e : Nat, e ≤ n ∧ i = .int .i64 e ∧ Hid (∀ k, k < e → bothB n (cellF xss) k = false)) (fun i => n - (intOf i).toNat)
    case atStart => exact ⟨0, by omega, rfl, fun k h => by omega⟩
    case round =>
      obtain ⟨e, he, rfl, hP⟩ := hrel
      by_cases c : e < n
      · have k1 : decide (e < n) = true := by simpa using c
        have k1' : decide ((e : Int) < (n : Int)) = true := decide_eq_true (by omega)
        have w3 := IntWalk.i64_in ((e : Int) + 1) (by omega)
        have H1 := Lib.hid (HL.out w1 B1.out e c)
        have H2 := Lib.hid (HR.out w1 B1.out e c)
        have be := BB.out e
        have NF : Hid (bothB n (cellF xss) e = false → ∀ k, k < e + 1 → bothB n (cellF xss) k = false) := fun h k hk => by
          by_cases e2 : k = e
          · rw [e2]; exact h
          · exact hP.out k (by omega)
        have NT := Lib.hid (fun h => FS.out e c h hP.out)
        cases c1 : lftB n (cellF xss) e with
        | false =>
          rw [c1, Bool.false_and] at be
          have P2 := Lib.hid (NF.out be)
          rw [c1] at H1
          clear be c1
          go_wp2_with fail
          refine H1.out.mono ?_
          rintro e w2 ⟨rfl, rfl⟩
          go_wp2
          go_round
          case rel => exact ⟨_, by omega, by go_num, P2⟩
          case measure => simp [intOf]; omega
        | true =>
          rw [c1, Bool.true_and] at be
          rw [c1] at H1
          cases c2 : rgtB n (cellF xss) e with
          | false =>
            rw [c2] at be H2
            have P2 := Lib.hid (NF.out be)
            clear be c1 c2
            go_wp2_with fail
            refine H1.out.mono ?_
            rintro e w2 ⟨rfl, rfl⟩
            go_wp2_with fail
            refine H2.out.mono ?_
            rintro e w3 ⟨rfl, rfl⟩
            go_wp2
            go_round
            case rel => exact ⟨_, by omega, by go_num, P2⟩
            case measure => simp [intOf]; omega
          | true =>
            rw [c2] at be H2
            have V2 := Lib.hid (NT.out be)
            clear be c1 c2
            go_wp2_with fail
            refine H1.out.mono ?_
            rintro e w2 ⟨rfl, rfl⟩
            go_wp2_with fail
            refine H2.out.mono ?_
            rintro e w3 ⟨rfl, rfl⟩
            go_wp2
            go_ret2
            exact ⟨by rw [V2.out]; rfl, B1.out⟩
      · have k1 : decide (e < n) = false := by simpa using c
        have k1' : decide ((e : Int) < (n : Int)) = false := decide_eq_false (by omega)
        obtain rfl : e = n := by omega
        have V2 := Lib.hid (FN.out hP.out)
        go_wp2
        go_ret2
        exact ⟨by rw [V2.out]; rfl, B1.out⟩

set_option maxRecDepth 100000 in
set_option maxHeartbeats 4000000 in
theorem iUnitOf (xss : List (List Int)) (hx : SmallLL xss) (w : World) (v : Value) (hv : RowsAt w v xss) :
    Calls Try.prog 23 #[v] w fun e w' => e = .returned (.tuple #[.int .i64 (UnitOf_0 xss), .bool (UnitOf_1 xss)]) ∧ Below w.heap.size w w' := by
  have H0 := Lib.hid (ilsq w v xss hv)
  have e0 : UnitOf_0 xss = optI (unitO xss) := rfl
  have e1 : UnitOf_1 xss = (unitO xss).isSome := rfl
  rw [e0, e1]
  clear e0 e1
  cases hp : sqB xss with
  | false =>
    rw [unitO_bad hp]
    rw [hp] at H0
    clear hp hv
    go_enter Try.func23, Try.ntmps23
    go_wp2_with fail
    refine H0.out.mono ?_
    rintro e w4 ⟨m, f, rfl, -, b4⟩
    have st := stores_newSq w4 (sqC m f)
    have B5 : Hid (Below w.heap.size w (w4.alloc (.cells (iar 101 (sqC m f)) 52))) := b4.alloc b4.size _
    clear b4
    go_wp2
    go_ret2
    exact ⟨rfl, B5.out⟩
  | true =>
    rw [unitO_ok hp]
    have S := of_sqB hp
    rw [hp] at H0
    have nhi := S.hi
    obtain ⟨n, hn⟩ : ∃ n, xss.length = n := ⟨_, rfl⟩
    rw [hn] at H0 nhi ⊢
    have UE : Hid ((fstN n (rgtB n (cellF xss))).isSome = true → fstN n (lftB n (cellF xss)) = fstN n (bothB n (cellF xss))) := unit_eq
    have UN : Hid ((fstN n (rgtB n (cellF xss))).isSome = false → fstN n (bothB n (cellF xss)) = none) := unit_no
    have FC : ∀ x y, x < n → y < n → sqF n (cellF xss) x y = cellF xss x y := fun x y hx hy => sqF_in _ hx hy
    have EL : fstN n (lftB n (sqF n (cellF xss))) = fstN n (lftB n (cellF xss)) := fstN_congr fun e he => lft_congr FC he
    have ER : fstN n (rgtB n (sqF n (cellF xss))) = fstN n (rgtB n (cellF xss)) := fstN_congr fun e he => rgt_congr FC he
    have HL := Lib.hid (fun W => ileft n nhi W (sqF n (cellF xss)))
    have HR := Lib.hid (fun W => ihasRight n nhi W (sqF n (cellF xss)))
    simp only [EL] at HL
    simp only [ER] at HR
    obtain ⟨V, hV⟩ : ∃ V, fstN n (bothB n (cellF xss)) = V := ⟨_, rfl⟩
    rw [hV] at UE UN ⊢
    clear hp hv S hn hV EL ER FC
    go_enter Try.func23, Try.ntmps23
    go_wp2_with fail
    refine H0.out.mono ?_
    rintro e w4 ⟨m, f, rfl, hmf2, b4⟩
    obtain ⟨hm1, hm2⟩ := hmf2 (by trivial)
    rw [hm1, hm2]
    clear hmf2 hm1 hm2
    have s4 := b4.size
    obtain ⟨F, hF⟩ : ∃ F, sqF n (cellF xss) = F := ⟨_, rfl⟩
    rw [hF] at HL HR ⊢
    have st := stores_newSq w4 (sqC n F)
    have b5 : Below w.heap.size w (w4.alloc (.cells (iar 101 (sqC n F)) 52)) := b4.alloc s4 _
    have A5 : SqAt (w4.alloc (.cells (iar 101 (sqC n F)) 52)) w4.heap.size n F := heap_alloc_new _ _
    obtain ⟨w5, hw5⟩ : ∃ w5, w4.alloc (.cells (iar 101 (sqC n F)) 52) = w5 := ⟨_, rfl⟩
    obtain ⟨g, hg⟩ : ∃ g, w4.heap.size = g := ⟨_, rfl⟩
    rw [hw5] at st b5 A5
    rw [hg] at st A5
    have B5 := Lib.hid b5
    have X5 := Lib.hid A5
    have HR5 := Lib.hid (HR.out w5)
    obtain ⟨z, hz⟩ : ∃ z, (fstN n (rgtB n (cellF xss))).isSome = z := ⟨_, rfl⟩
    rw [hz] at HR5 UE UN
    clear b4 b5 A5 hF hz H0 HR
    cases z with
    | false =>
      have V2 := Lib.hid (UN.out rfl)
      go_wp2_with fail
      refine wp_load_row 52 (.tmp 4) rfl _ rfl _ _ _ _ X5.out Try.underlying52 rfl (by rw [iar_size]; exact Try.infoSq) ?_
      go_wp2_with fail
      refine HR5.out.mono ?_
      rintro e w6 ⟨rfl, b6⟩
      have B6 := Lib.hid (t_chain B5.out b6)
      clear b6
      go_wp2
      go_ret2
      exact ⟨by rw [V2.out]; rfl, B6.out⟩
    | true =>
      have V2 := Lib.hid (UE.out rfl)
      go_wp2_with fail
      refine wp_load_row 52 (.tmp 4) rfl _ rfl _ _ _ _ X5.out Try.underlying52 rfl (by rw [iar_size]; exact Try.infoSq) ?_
      go_wp2_with fail
      refine HR5.out.mono ?_
      rintro e w6 ⟨rfl, b6⟩
      have B6 := Lib.hid (t_chain B5.out b6)
      have X6 := Lib.hid (SqAt.below X5.out b6 (Ia.lt X5.out))
      clear b6
      go_wp2_with (refine wpList_load_row rfl 52 (.tmp 4) rfl _ rfl _ _ _ _ X6.out Try.underlying52 rfl (by rw [iar_size]; exact Try.infoSq) ?_)
      refine (HL.out w6).mono ?_
      rintro e w7 ⟨rfl, b7⟩
      have B7 := Lib.hid (t_chain B6.out b7)
      clear b7
      rw [V2.out]
      go_wp2
      go_ret2
      exact ⟨rfl, B7.out⟩

set_option maxRecDepth 100000 in
set_option maxHeartbeats 4000000 in
theorem iIsGroupBased (xss : List (List Int)) (hx : SmallLL xss) (w : World) (v : Value) (hv : RowsAt w v xss) :
    Calls Try.prog 25 #[v] w fun e w' => e = .returned (.bool (IsGroupBased_0 xss)) ∧ Below w.heap.size w w' := by
  have H0 := Lib.hid (ilsq w v xss hv)
  have e0 : IsGroupBased_0 xss = (sqB xss && assB xss.length (redF xss.length (cellF xss))) := rfl
  rw [e0]
  clear e0
  cases hp : sqB xss with
  | false =>
    rw [Bool.false_and]
    rw [hp] at H0
    clear hp hv
    go_enter Try.func25, Try.ntmps25
    go_wp2_with fail
    refine H0.out.mono ?_
    rintro e w4 ⟨m, f, rfl, -, b4⟩
    have st := stores_newSq w4 (sqC m f)
    have B5 : Hid (Below w.heap.size w (w4.alloc (.cells (iar 101 (sqC m f)) 52))) := b4.alloc b4.size _
    clear b4
    go_wp2
    go_ret
    exact ⟨rfl, B5.out⟩
  | true =>
    rw [Bool.true_and]
    have S := of_sqB hp
    rw [hp] at H0
    have nhi := S.hi
    have nlo := S.lo
    have IQ := S.inSq
    obtain ⟨n, hn⟩ : ∃ n, xss.length = n := ⟨_, rfl⟩
    rw [hn] at H0 nhi nlo IQ ⊢
    have IQ2 : InSq n (sqF n (cellF xss)) := fun x y hx hy => by rw [sqF_in _ hx hy]; exact IQ x y hx hy
    have ER := red_sqF (n := n) (cellF xss)
    have HR := Lib.hid (fun W => ired n nlo nhi W (sqF n (cellF xss)) IQ2)
    simp only [ER] at HR
    have HA := Lib.hid (fun W => iassoc n nhi W (redF n (cellF xss)) (redF_in nlo IQ))
    clear hp hv S hn ER IQ IQ2
    obtain ⟨G, hG⟩ : ∃ G, redF n (cellF xss) = G := ⟨_, rfl⟩
    rw [hG] at HR HA ⊢
    clear hG
    go_enter Try.func25, Try.ntmps25
    go_wp2_with fail
    refine H0.out.mono ?_
    rintro e w4 ⟨m, f, rfl, hmf2, b4⟩
    obtain ⟨hm1, hm2⟩ := hmf2 (by trivial)
    rw [hm1, hm2]
    clear hmf2 hm1 hm2
    have s4 := b4.size
    obtain ⟨F, hF⟩ : ∃ F, sqF n (cellF xss) = F := ⟨_, rfl⟩
    rw [hF] at HR ⊢
    have st := stores_newSq w4 (sqC n F)
    have b5 : Below w.heap.size w (w4.alloc (.cells (iar 101 (sqC n F)) 52)) := b4.alloc s4 _
    have A5 : SqAt (w4.alloc (.cells (iar 101 (sqC n F)) 52)) w4.heap.size n F := heap_alloc_new _ _
    obtain ⟨w5, hw5⟩ : ∃ w5, w4.alloc (.cells (iar 101 (sqC n F)) 52) = w5 := ⟨_, rfl⟩
    obtain ⟨g, hg⟩ : ∃ g, w4.heap.size = g := ⟨_, rfl⟩
    rw [hw5] at st b5 A5
    rw [hg] at st A5
    have B5 := Lib.hid b5
    have X5 := Lib.hid A5
    clear b4 b5 A5 hF H0
    go_wp2_with fail
    refine wp_load_row 52 (.tmp 3) rfl _ rfl _ _ _ _ X5.out Try.underlying52 rfl (by rw [iar_size]; exact Try.infoSq) ?_
    go_wp2_with fail
    refine (HR.out w5).mono ?_
    rintro e w6 ⟨rfl, b6⟩
    have B6 := Lib.hid (t_chain B5.out b6)
    clear b6
    go_wp2_with fail
    refine (HA.out w6).mono ?_
    rintro e w7 ⟨rfl, b7⟩
    have B7 := Lib.hid (t_chain B6.out b7)
    clear b7
    go_wp2
    go_ret
    exact ⟨rfl, B7.out⟩

set_option maxRecDepth 100000 in
set_option maxHeartbeats 4000000 in
theorem sIsGroupBased (xss : List (List Int)) (hx : SmallLL xss) (w : World) (v : Value) (hv : RowsAt w v xss) :
    Calls Try.prog 24 #[v] w fun e w' => e = .returned (.bool (IsGroupBased_0 xss)) ∧ Below w.heap.size w w' := by
  have HS := Lib.hid (sSq w v xss hv)
  have e0 : IsGroupBased_0 xss = (sqB xss && assB xss.length (redF xss.length (cellF xss))) := rfl
  rw [e0]
  clear e0
  cases hp : sqB xss with
  | false =>
    rw [Bool.false_and]
    rw [hp] at HS
    clear hp hv
    go_enter Try.func24, Try.ntmps24
    go_wp2_with fail
    refine HS.out.mono ?_
    rintro e w1 ⟨rfl, b1⟩
    have B1 := Lib.hid b1
    clear b1
    go_wp2
    go_ret
    exact ⟨rfl, B1.out⟩
  | true =>
    rw [Bool.true_and]
    have S := of_sqB hp
    rw [hp] at HS
    have nhi := S.hi
    have nlo := S.lo
    have IQ := S.inSq
    have HR := Lib.hid (fun W (b : Below w.heap.size w W) => sReducedSquare xss hx W v (hv.below b (Nat.le_refl _)))
    simp only [(Red_ok hp).1, (Red_ok hp).2] at HR
    obtain ⟨n, hn⟩ : ∃ n, xss.length = n := ⟨_, rfl⟩
    rw [hn] at nhi nlo IQ ⊢
    simp only [hn] at HR
    have RI := redF_in nlo IQ
    have EG : assB n (cellF (gridL n n (redF n (cellF xss)))) = assB n (redF n (cellF xss)) := (assB_congr RI (fun x y hx hy => (cellF_grid (redF n (cellF xss)) hx hy).symm)).symm
    have HA := Lib.hid (fun W u (hu : RowsAt W u (gridL n n (redF n (cellF xss)))) => sAssoc W u _ n (gridL_length _ _ _) nlo nhi (fun x hx => by rw [gridL_getD _ hx, rowf_length]) hu (fun x y hx hy => by rw [cellF_grid _ hx hy]; exact RI x y hx hy))
    simp only [EG] at HA
    clear hp hv S hn IQ RI EG
    obtain ⟨G, hG⟩ : ∃ G, gridL n n (redF n (cellF xss)) = G := ⟨_, rfl⟩
    simp only [hG] at HR HA
    clear hG
    go_enter Try.func24, Try.ntmps24
    go_wp2_with fail
    refine HS.out.mono ?_
    rintro e w1 ⟨rfl, b1⟩
    have B1 := Lib.hid b1
    clear b1
    go_wp2_with fail
    refine (HR.out w1 B1.out).mono ?_
    rintro e w2 ⟨r, rfl, r2, b2⟩
    have B2 := Lib.hid (t_chain B1.out b2)
    have R2 := Lib.hid r2
    clear b2 r2
    go_wp2_with fail
    refine (HA.out w2 r R2.out).mono ?_
    rintro e w3 ⟨rfl, b3⟩
    have B3 := Lib.hid (t_chain B2.out b3)
    clear b3
    go_wp2
    go_ret
    exact ⟨rfl, B3.out⟩
end Go.Proofs.Ytekikbkafbpkkaa
