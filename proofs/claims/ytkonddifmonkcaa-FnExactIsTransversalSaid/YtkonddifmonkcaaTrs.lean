/- IsTransversal: the model. -/
import Derived.Test.YtkonddifmonkcaaTrv
import Derived.Test.YtkonddifmonkcaaIsf
import Derived.Test.YtkonddifmonkcaaPus
import Derived.Deep.RegionHeld2
namespace Go.Proofs.Ytkonddifmonkcaa
open Go.RowKit
set_option linter.unusedVariables false
set_option linter.unusedSimpArgs false

set_option maxRecDepth 100000 in
set_option maxHeartbeats 8000000 in
theorem sTransv (n : Nat) (l1 : 1 ≤ n) (l2 : n ≤ 10) (w : World) (v u : Value) (xss : List (List Int)) (cs : List Int) (hv : RowsAt w v xss) (hu : IntsC w u cs)
    (lx : xss.length = n) (hrx : ∀ x, x < n → (xss.getD x []).length = n) (jf : InSq n (cellF xss)) :
    Calls Try.prog 51 #[v, u] w fun e w' => e = .returned (.bool (rpB n cs && pmB (symsL xss cs n))) ∧ Below w.heap.size w w' := by
  have HP := Lib.hid (sPerm w u cs n (by omega) hu)
  obtain ⟨va, vk, rfl, k0⟩ := hv.look lx hrx
  have HK0 := Lib.hid k0
  obtain ⟨z, hz⟩ : ∃ z, rpB n cs = z := ⟨_, rfl⟩
  rw [hz] at HP ⊢
  cases z with
  | false =>
    obtain ⟨ua, uk, rfl⟩ := hu.shape
    clear hz hv hu hrx jf k0
    go_enter Try.func51, Try.ntmps51
    go_wp2_with fail
    refine HP.out.mono ?_
    rintro e w1 ⟨rfl, d, rfl⟩
    go_wp2
    go_ret
    exact ⟨rfl, below_drewN (Below.refl _ _) _⟩
  | true =>
    have hz2 := hz
    unfold rpB at hz2
    rw [Bool.and_eq_true, decide_eq_true_iff] at hz2
    obtain ⟨lc, pc⟩ := hz2
    have CR := Lib.hid (fun i (hi : i < n) => pm_mem lc pc hi)
    obtain ⟨ua, uk, rfl, k1⟩ := hu.1.look lc
    have HK1 := Lib.hid k1
    have SS : Hid (∀ x, symsL xss cs (x + 1) = symsL xss cs x ++ [cellF xss x (cs.getD x 0).toNat]) := fun x => symsL_succ xss cs x
    have SL : Hid (∀ x, (symsL xss cs x).length = x) := fun x => symsL_length xss cs x
    have S0 : Hid (symsL xss cs 0 = []) := rfl
    clear hz hv hu hrx jf k0 k1 lc pc lx
    go_enter Try.func51, Try.ntmps51
    go_wp2_with fail
    refine HP.out.mono ?_
    rintro e w1 ⟨rfl, d, rfl⟩
    have b1 : Below w.heap.size w (w.drewN d) := below_drewN (Below.refl _ _) _
    obtain ⟨w1, hw1⟩ : ∃ w1, w.drewN d = w1 := ⟨_, rfl⟩
    have zw : w1.heap.size = w.heap.size := by rw [← hw1]; rfl
    rw [hw1] at b1
    rw [hw1]
    obtain ⟨B, hB⟩ : ∃ B, w.heap.size = B := ⟨_, rfl⟩
    rw [hB] at zw b1 HK0 HK1
    have HE := Lib.hid hB
    have I0 : Hid (Ints (w1.alloc (.cells #[] 2)) B (.slice (some ⟨B, 0, none⟩) 0 0) (symsL xss cs 0)) := by
      have := World.ownsRow_made (base := B) (e := 2) (size := 1) w1 #[] 0 (by omega) (by decide) rfl
      rw [zw] at this
      unfold Hid Ints
      rw [S0.out]
      exact this
    have b2 : Hid (Below B w (w1.alloc (.cells #[] 2))) := b1.alloc (by omega) _
    have z2 : B ≤ (w1.alloc (.cells #[] 2)).heap.size := by rw [World.size_alloc]; omega
    clear hw1 b1 hB
    go_wp2
    obtain ⟨wo, hwo⟩ : ∃ wo, w1.alloc (.cells #[] 2) = wo := ⟨_, rfl⟩
    rw [hwo] at I0 b2 z2
    rw [hwo]
    clear hwo zw
    go_loopw [5, 6] (fun lv i wr => ∃ x : Nat, x ≤ n ∧ i = .int .i64 x ∧ Hid (Ints wr B lv (symsL xss cs x)) ∧ Hid (Below B w wr) ∧ B ≤ wr.heap.size) (fun _ i _ => n - (intOf i).toNat)
    case atStart => exact ⟨0, by omega, rfl, I0, b2, z2⟩
    case round =>
      obtain ⟨x, hx, rfl, hI, hBl, hsz⟩ := hrel
      by_cases c : x < n
      · have k1 : decide (x < n) = true := by simpa using c
        have k1' : decide ((x : Int) < (n : Int)) = true := decide_eq_true (by omega)
        have wx3 := IntWalk.i64_in ((x : Int) + 1) (by omega)
        have x0 : (0 : Int) ≤ (x : Int) := by omega
        have x1 : (x : Int) < (n : Int) := by omega
        have cr := CR.out x c
        have ss := SS.out x
        have sl := SL.out x
        obtain ⟨g3, f3, rfl, m3⟩ := HK1.out w (Below.refl _ _) x c
        obtain ⟨q, hq⟩ : ∃ q, cs.getD x 0 = q := ⟨_, rfl⟩
        rw [hq] at cr ss m3
        obtain ⟨t, rfl⟩ : ∃ t : Nat, q = t := ⟨q.toNat, by omega⟩
        rw [Int.toNat_natCast] at ss
        have t0 : (0 : Int) ≤ (t : Int) := by omega
        have t1 : (t : Int) < (n : Int) := by omega
        obtain ⟨g, off, g2, off2, cc, rfl, m1, m2⟩ := HK0.out w (Below.refl _ _) x t c (by omega)
        obtain ⟨s, hs⟩ : ∃ s, cellF xss x t = s := ⟨_, rfl⟩
        rw [hs] at m2 ss
        have SX := Lib.hid ss
        have h1 := World.block_lt_of_cell? w _ m1
        have h2 := World.block_lt_of_cell? w _ m2
        have h3 := World.block_lt_of_cell? w _ m3
        rw [HE.out] at h1 h2 h3
        have KEY : Hid (∀ W : World, Hid (Below B w W) → W.cell? ⟨g, off + x, none⟩ = some (.slice (some ⟨g2, off2, none⟩) n cc) ∧ W.cell? ⟨g2, off2 + t, none⟩ = some (.int .i64 s) ∧ W.cell? ⟨g3, f3 + x, none⟩ = some (.int .i64 t) ∧ Hid (Below B w W)) := fun W hW =>
          ⟨(hW.out.cell (p := ⟨g, off + x, none⟩) h1).trans m1, (hW.out.cell (p := ⟨g2, off2 + t, none⟩) h2).trans m2, (hW.out.cell (p := ⟨g3, f3 + x, none⟩) h3).trans m3, hW⟩
        have I3 : Hid (Ints wr.drew B u5 (symsL xss cs x)) := hI.out
        have sz3 : B ≤ wr.drew.heap.size := hsz
        have B3 : Hid (Below B w wr.drew) := hBl.out.drew
        have B4 : Hid (Below B w (wr.drew.alloc (.cells #[.int .i64 s] 2))) := B3.out.alloc sz3 _
        clear ss hs hq cr m1 m2 m3 h1 h2 h3
        go_wp2
        obtain ⟨wd, hwd⟩ : ∃ wd, wr.drew = wd := ⟨_, rfl⟩
        refine wp_region_held_drew (S := fun W => W.cell? ⟨g, off + x, none⟩ = some (.slice (some ⟨g2, off2, none⟩) n cc) ∧ W.cell? ⟨g2, off2 + t, none⟩ = some (.int .i64 s) ∧ W.cell? ⟨g3, f3 + x, none⟩ = some (.int .i64 t) ∧ Hid (Below B w W)) (by kernel_rfl) (KEY.out _ B3) (fun hHeld => ?_)
        rw [hwd] at hHeld I3 sz3 B3 B4
        rw [hwd]
        clear hwd
        refine wpAnyH_take (i := 0) (oi := { dst := some 19, op := Op.move (Operand.tmp 5), type := 35, pos := "l07_orthogonal.go:128", after := #[], guard := none }) (v := ?_) rfl (by kernel_rfl) (by kernel_rfl) (by kernel_rfl) (fun _ _ _ h => h) (Or.inl ⟨by rfl, ?_⟩) (by assumption) ?_
        rotate_left
        · intro w hSw; (try dsimp only at hSw); go_simp
          try with_reducible rfl
        simp only [Act.put, List.setIfInBounds_toArray, List.set_cons_zero, List.set_cons_succ]
        refine wpAnyH_take (i := 1) (oi := { dst := some 20, op := Op.move (Operand.tmp 0), type := 22, pos := "l07_orthogonal.go:128", after := #[], guard := none }) (v := ?_) rfl (by kernel_rfl) (by kernel_rfl) (by kernel_rfl) (fun _ _ _ h => h) (Or.inl ⟨by rfl, ?_⟩) (by assumption) ?_
        rotate_left
        · intro w hSw; (try dsimp only at hSw); go_simp
          try with_reducible rfl
        simp only [Act.put, List.setIfInBounds_toArray, List.set_cons_zero, List.set_cons_succ]
        refine wpAnyH_take (i := 2) (oi := { dst := some 21, op := Op.move (Operand.tmp 6), type := 3, pos := "l07_orthogonal.go:128", after := #[], guard := none }) (v := ?_) rfl (by kernel_rfl) (by kernel_rfl) (by kernel_rfl) (fun _ _ _ h => h) (Or.inl ⟨by rfl, ?_⟩) (by assumption) ?_
        rotate_left
        · intro w hSw; (try dsimp only at hSw); go_simp
          try with_reducible rfl
        simp only [Act.put, List.setIfInBounds_toArray, List.set_cons_zero, List.set_cons_succ]
        refine wpAnyH_take (i := 3) (oi := { dst := some 22, op := Op.indexAddr 22 (Operand.tmp 20) (Operand.tmp 21), type := 0, pos := "l07_orthogonal.go:128", after := #[{ on := 1, ground := Ground.data }, { on := 2, ground := Ground.data }], guard := none }) (v := ?_) rfl (by kernel_rfl) (by kernel_rfl) (by kernel_rfl) (fun _ _ _ h => h) (Or.inl ⟨by rfl, ?_⟩) (by assumption) ?_
        rotate_left
        · intro w hSw; (try dsimp only at hSw); go_simp
          try with_reducible rfl
        simp only [Act.put, List.setIfInBounds_toArray, List.set_cons_zero, List.set_cons_succ]
        refine wpAnyH_take (i := 4) (oi := { dst := some 23, op := Op.load 35 (Operand.tmp 22), type := 35, pos := "l07_orthogonal.go:128", after := #[{ on := 3, ground := Ground.data }], guard := none }) (v := ?_) rfl (by kernel_rfl) (by kernel_rfl) (by kernel_rfl) (fun _ _ _ h => h) (Or.inl ⟨by rfl, ?_⟩) (by assumption) ?_
        rotate_left
        · intro w hSw; (try dsimp only at hSw); go_simp
          try with_reducible rfl
        simp only [Act.put, List.setIfInBounds_toArray, List.set_cons_zero, List.set_cons_succ]
        refine wpAnyH_take (i := 5) (oi := { dst := some 24, op := Op.move (Operand.tmp 1), type := 35, pos := "l07_orthogonal.go:128", after := #[], guard := none }) (v := ?_) rfl (by kernel_rfl) (by kernel_rfl) (by kernel_rfl) (fun _ _ _ h => h) (Or.inl ⟨by rfl, ?_⟩) (by assumption) ?_
        rotate_left
        · intro w hSw; (try dsimp only at hSw); go_simp
          try with_reducible rfl
        simp only [Act.put, List.setIfInBounds_toArray, List.set_cons_zero, List.set_cons_succ]
        refine wpAnyH_take (i := 6) (oi := { dst := some 25, op := Op.move (Operand.tmp 6), type := 3, pos := "l07_orthogonal.go:128", after := #[], guard := none }) (v := ?_) rfl (by kernel_rfl) (by kernel_rfl) (by kernel_rfl) (fun _ _ _ h => h) (Or.inl ⟨by rfl, ?_⟩) (by assumption) ?_
        rotate_left
        · intro w hSw; (try dsimp only at hSw); go_simp
          try with_reducible rfl
        simp only [Act.put, List.setIfInBounds_toArray, List.set_cons_zero, List.set_cons_succ]
        refine wpAnyH_take (i := 7) (oi := { dst := some 26, op := Op.indexAddr 35 (Operand.tmp 24) (Operand.tmp 25), type := 0, pos := "l07_orthogonal.go:128", after := #[{ on := 5, ground := Ground.data }, { on := 6, ground := Ground.data }], guard := none }) (v := ?_) rfl (by kernel_rfl) (by kernel_rfl) (by kernel_rfl) (fun _ _ _ h => h) (Or.inl ⟨by rfl, ?_⟩) (by assumption) ?_
        rotate_left
        · intro w hSw; (try dsimp only at hSw); go_simp
          try with_reducible rfl
        simp only [Act.put, List.setIfInBounds_toArray, List.set_cons_zero, List.set_cons_succ]
        refine wpAnyH_take (i := 8) (oi := { dst := some 27, op := Op.load 2 (Operand.tmp 26), type := 2, pos := "l07_orthogonal.go:128", after := #[{ on := 7, ground := Ground.data }], guard := none }) (v := ?_) rfl (by kernel_rfl) (by kernel_rfl) (by kernel_rfl) (fun _ _ _ h => h) (Or.inl ⟨by rfl, ?_⟩) (by assumption) ?_
        rotate_left
        · intro w hSw; (try dsimp only at hSw); go_simp
          try with_reducible rfl
        simp only [Act.put, List.setIfInBounds_toArray, List.set_cons_zero, List.set_cons_succ]
        refine wpAnyH_take (i := 9) (oi := { dst := some 28, op := Op.indexAddr 35 (Operand.tmp 23) (Operand.tmp 27), type := 0, pos := "l07_orthogonal.go:128", after := #[{ on := 4, ground := Ground.data }, { on := 8, ground := Ground.data }], guard := none }) (v := ?_) rfl (by kernel_rfl) (by kernel_rfl) (by kernel_rfl) (fun _ _ _ h => h) (Or.inl ⟨by rfl, ?_⟩) (by assumption) ?_
        rotate_left
        · intro w hSw; (try dsimp only at hSw); go_simp
          try with_reducible rfl
        simp only [Act.put, List.setIfInBounds_toArray, List.set_cons_zero, List.set_cons_succ]
        refine wpAnyH_take (i := 10) (oi := { dst := some 29, op := Op.load 2 (Operand.tmp 28), type := 2, pos := "l07_orthogonal.go:128", after := #[{ on := 9, ground := Ground.data }], guard := none }) (v := ?_) rfl (by kernel_rfl) (by kernel_rfl) (by kernel_rfl) (fun _ _ _ h => h) (Or.inl ⟨by rfl, ?_⟩) (by assumption) ?_
        rotate_left
        · intro w hSw; (try dsimp only at hSw); go_simp
          try with_reducible rfl
        simp only [Act.put, List.setIfInBounds_toArray, List.set_cons_zero, List.set_cons_succ]
        refine wpAnyH_ready (rs := [11]) (by kernel_rfl) (by simp) ?_
        refine AllReadyH.cons rfl (fun K hK => ?_) AllReadyH.nil
        go_simp
        refine hK.out _ _ (KEY.out _ B4) (fun hHeld => ?_)
        clear hK K
        refine wpAnyH_ready (rs := [12]) (by kernel_rfl) (by simp) ?_
        refine AllReadyH.cons rfl (fun K hK => ?_) AllReadyH.nil
        rw [if_pos (by rfl)]
        refine wp_push wd _ _ (by rfl) B _ _ (by rfl) I3.out s _ (by rfl) (by omega) sz3 ?_
        intro v' w6 hn hb
        have HN' := Lib.hid hn
        have HB2 := Lib.hid hb
        have B6 := Lib.hid (B3.out.trans hb)
        clear hn hb
        simp only [Act.put, List.setIfInBounds_toArray, List.set_cons_zero, List.set_cons_succ]
        refine hK.out _ _ (KEY.out _ B6) (fun hHeld => ?_)
        clear hK K
        refine wpAnyH_take (i := 13) (oi := { dst := some 5, op := Op.assign (Operand.tmp 31), type := 35, pos := "l07_orthogonal.go:128", after := #[{ on := 12, ground := Ground.data }, { on := 12, ground := Ground.chain }, { on := 0, ground := Ground.phase }, { on := 1, ground := Ground.phase }, { on := 2, ground := Ground.phase }, { on := 3, ground := Ground.phase }, { on := 4, ground := Ground.phase }, { on := 5, ground := Ground.phase }, { on := 6, ground := Ground.phase }, { on := 7, ground := Ground.phase }, { on := 8, ground := Ground.phase }, { on := 9, ground := Ground.phase }, { on := 10, ground := Ground.phase }, { on := 11, ground := Ground.phase }, { on := 12, ground := Ground.phase }], guard := none }) (v := ?_) rfl (by kernel_rfl) (by kernel_rfl) (by kernel_rfl) (fun _ _ _ h => h) (Or.inl ⟨by rfl, ?_⟩) (by assumption) ?_
        rotate_left
        · intro w hSw; (try dsimp only at hSw); go_simp
          try with_reducible rfl
        simp only [Act.put, List.setIfInBounds_toArray, List.set_cons_zero, List.set_cons_succ]
        refine wpAnyH_done (by kernel_rfl) ?_ _
        go_wp2
        go_roundw
        case rel => exact ⟨x + 1, by omega, by go_num, by unfold Hid; rw [SX.out]; exact HN'.out, B3.out.trans HB2.out, Nat.le_trans sz3 HB2.out.size⟩
        case measure => simp [intOf]; omega
      · have k1 : decide (x < n) = false := by simpa using c
        have k1' : decide ((x : Int) < (n : Int)) = false := decide_eq_false (by omega)
        obtain rfl : x = n := by omega
        have HQ := Lib.hid (sok wr u5 _ hI.out.c)
        obtain ⟨z, hz⟩ : ∃ z, pmB (symsL xss cs x) = z := ⟨_, rfl⟩
        rw [hz] at HQ
        have HZ := Lib.hid hz
        clear hz
        go_wp2_with fail
        refine HQ.out.mono ?_
        rintro e w6 ⟨rfl, d2, rfl⟩
        go_wp2
        go_ret
        exact ⟨by rw [HZ.out]; rfl, by rw [HE.out]; exact below_drewN hBl.out _⟩

set_option maxRecDepth 100000 in
set_option maxHeartbeats 4000000 in
theorem sIsTransversal (xss : List (List Int)) (cs : List Int) (hx : SmallLL xss) (hc : SmallL cs) (w : World) (v u : Value) (hv : RowsAt w v xss) (hu : IntsC w u cs) :
    Calls Try.prog 29 #[v, u] w fun e w' => e = .returned (.bool (IsTransversal_0 xss cs)) ∧ Below w.heap.size w w' := by
  have HA := Lib.hid (sSq w v xss hv)
  have V : Hid (IsTransversal_0 xss cs = (sqB xss && (rpB xss.length cs && pmB (symsL xss cs xss.length)))) := rfl
  have SA := Lib.hid (fun k => of_sqB (xss := xss) k)
  have HV := Lib.hid (fun W (b : Below w.heap.size w W) => And.intro (hv.below b (Nat.le_refl _)) (hu.below b (Nat.le_refl _)))
  obtain ⟨z, hz⟩ : ∃ z, sqB xss = z := ⟨_, rfl⟩
  rw [hz] at HA V
  simp only [hz] at SA
  cases z with
  | false =>
    have V2 : Hid (IsTransversal_0 xss cs = false) := by have := V.out; rwa [Bool.false_and] at this
    clear hv hu hx hc hz V
    go_enter Try.func29, Try.ntmps29
    go_wp2_with fail
    refine HA.out.mono ?_
    rintro e w1 ⟨rfl, b1⟩
    have B1 := Lib.hid b1
    clear b1
    go_wp2
    go_ret
    exact ⟨by rw [V2.out]; rfl, B1.out⟩
  | true =>
    have S1 := SA.out rfl
    have l1 := S1.lo
    have l2 := S1.hi
    have r1 := S1.rowLen
    have i1 := S1.inSq
    have HT := Lib.hid (fun W (b : Below w.heap.size w W) => sTransv xss.length l1 l2 W v u xss cs (HV.out W b).1 (HV.out W b).2 rfl r1 i1)
    obtain ⟨b, hb⟩ : ∃ b, (rpB xss.length cs && pmB (symsL xss cs xss.length)) = b := ⟨_, rfl⟩
    rw [hb, Bool.true_and] at V
    simp only [hb] at HT
    clear hv hu hx hc hz hb S1 r1 i1 HV
    go_enter Try.func29, Try.ntmps29
    go_wp2_with fail
    refine HA.out.mono ?_
    rintro e w1 ⟨rfl, b1⟩
    have B1 := Lib.hid b1
    clear b1
    go_wp2_with fail
    refine (HT.out w1 B1.out).mono ?_
    rintro e w2 ⟨rfl, b2⟩
    have B2 := Lib.hid (t_chain B1.out b2)
    clear b2
    go_wp2
    go_ret
    exact ⟨by rw [V.out]; rfl, B2.out⟩
end Go.Proofs.Ytkonddifmonkcaa
