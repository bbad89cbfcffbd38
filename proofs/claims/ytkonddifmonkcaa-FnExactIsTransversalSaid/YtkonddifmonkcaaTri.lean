/- IsTransversal: the program. -/
import Derived.Test.YtkonddifmonkcaaTrv
import Derived.Test.YtkonddifmonkcaaWi
import Derived.Test.YtkonddifmonkcaaIsf
import Derived.Test.YtkonddifmonkcaaLsq
import Derived.Deep.RegionHeld2
namespace Go.Proofs.Ytkonddifmonkcaa
open Go.RowKit Go.Shelf
set_option linter.unusedVariables false
set_option linter.unusedSimpArgs false

/-- One slice in a block of its own. -/
theorem rows1 {w : World} {g : Nat} {v : Value} {cs : List Int} (h : w.heap[g]? = some (.cells #[v] 35 (0, 0))) (i1 : IntsC w v cs) : RowsAt w (.slice (some ⟨g, 0, none⟩) 1 1) [cs] := by
  refine ⟨by simp, some ⟨g, 0, none⟩, 1, rfl, by simp, fun j hj => ?_⟩
  obtain rfl : j = 0 := by simp at hj; omega
  exact ⟨g, 0, v, rfl, by rw [cell_of_row w g _ _ _ _ h]; rfl, i1⟩
theorem hp1 (n : Nat) (cs : List Int) : hpB n [cs] = rpB n cs := by
  have e0 : rpB n cs = true ↔ rowD n [cs] 0 := rpB_rowD (xss := [cs]) (i := 0)
  cases h : rpB n cs with
  | false => exact hpB_false (x := 0) (by simp) (fun k => by rw [e0.2 k] at h; cases h)
  | true =>
    refine hpB_true fun x hx => ?_
    obtain rfl : x = 0 := by simp at hx; omega
    exact e0.1 h

set_option maxRecDepth 100000 in
set_option maxHeartbeats 8000000 in
theorem iIsTransversal (xss : List (List Int)) (cs : List Int) (hx : SmallLL xss) (hc : SmallL cs) (w : World) (v u : Value) (hv : RowsAt w v xss) (hu : IntsC w u cs) :
    Calls Try.prog 31 #[v, u] w fun e w' => e = .returned (.bool (IsTransversal_0 xss cs)) ∧ Below w.heap.size w w' := by
  have HA := Lib.hid (ilsq w v xss hv)
  have V : Hid (IsTransversal_0 xss cs = (sqB xss && (rpB xss.length cs && pmB (symsL xss cs xss.length)))) := rfl
  have SA := Lib.hid (fun k => of_sqB (xss := xss) k)
  have HU := Lib.hid hu
  obtain ⟨ua, uk, rfl⟩ := hu.shape
  obtain ⟨z, hz⟩ : ∃ z, sqB xss = z := ⟨_, rfl⟩
  rw [hz] at HA V
  simp only [hz] at SA
  clear hv hu hx hc hz
  cases z with
  | false =>
    have V2 : Hid (IsTransversal_0 xss cs = false) := by have := V.out; rwa [Bool.false_and] at this
    clear V SA
    go_enter Try.func31, Try.ntmps31
    go_wp2_with fail
    refine HA.out.mono ?_
    rintro e w1 ⟨n, F, rfl, -, b1⟩
    have st1 := stores_newSq w1 (sqC n F)
    have B2 : Hid (Below w.heap.size w (w1.alloc (.cells (iar 101 (sqC n F)) 46))) := b1.alloc b1.size _
    clear b1
    go_wp2
    go_ret
    exact ⟨by rw [V2.out]; rfl, B2.out⟩
  | true =>
    have S1 := SA.out rfl
    have l1 := S1.lo
    have l2 := S1.hi
    have CI := Lib.hid S1.inSq
    have V1 : Hid (IsTransversal_0 xss cs = (rpB xss.length cs && pmB (symsL xss cs xss.length))) := by have := V.out; rwa [Bool.true_and] at this
    clear V SA S1
    go_enter Try.func31, Try.ntmps31
    go_wp2_with fail
    refine HA.out.mono ?_
    rintro e w1 ⟨n, F, rfl, hA, b1⟩
    obtain ⟨hn1, hF⟩ := hA (by trivial)
    have FC : Hid (∀ x y, x < n → y < n → F x y = cellF xss x y) := fun x y hx hy => by rw [hF]; exact sqF_in _ (by omega) (by omega)
    rw [← hn1] at V1 CI l1 l2
    have st1 := stores_newSq w1 (sqC n F)
    have s1 := b1.size
    have b2 : Below w.heap.size w (w1.alloc (.cells (iar 101 (sqC n F)) 46)) := b1.alloc b1.size _
    have A2 : SqAt (w1.alloc (.cells (iar 101 (sqC n F)) 46)) w1.heap.size n F := heap_alloc_new _ _
    have q2 : (w1.alloc (.cells (iar 101 (sqC n F)) 46)).heap.size = w1.heap.size + 1 := World.size_alloc _ _
    obtain ⟨g, hg⟩ : ∃ g, w1.heap.size = g := ⟨_, rfl⟩
    obtain ⟨w2, hw2⟩ : ∃ w2, w1.alloc (.cells (iar 101 (sqC n F)) 46) = w2 := ⟨_, rfl⟩
    rw [hw2] at st1 b2 A2 q2
    rw [hg] at st1 A2 q2 s1
    have o2 := SqAt.order A2
    have b3 : Below w.heap.size w (w2.alloc (.cells #[.slice ua cs.length uk] 35)) := b2.alloc b2.size _
    have A3 : SqAt (w2.alloc (.cells #[.slice ua cs.length uk] 35)) g n F := (heap_alloc_old _ _ (by omega)).trans A2
    have H3 : (w2.alloc (.cells #[.slice ua cs.length uk] 35)).heap[g + 1]? = some (.cells #[.slice ua cs.length uk] 35 (0, 0)) := by rw [← q2]; exact heap_alloc_new _ _
    have q3 : (w2.alloc (.cells #[.slice ua cs.length uk] 35)).heap.size = g + 2 := by rw [World.size_alloc, q2]
    obtain ⟨w3, hw3⟩ : ∃ w3, w2.alloc (.cells #[.slice ua cs.length uk] 35) = w3 := ⟨_, rfl⟩
    rw [hw3] at b3 A3 H3 q3
    have HP := Lib.hid (ihp n (by omega) w3 _ [cs] (rows1 H3 (HU.out.below b3 (Nat.le_refl _))))
    rw [hp1] at HP
    have X3 := Lib.hid A3
    have B3 := Lib.hid b3
    clear hA hn1 hF b1 b2 A2 b3 A3 H3
    obtain ⟨y, hy⟩ : ∃ y, rpB n cs = y := ⟨_, rfl⟩
    rw [hy] at HP V1
    cases y with
    | false =>
      have V2 : Hid (IsTransversal_0 xss cs = false) := by have := V1.out; rwa [Bool.false_and] at this
      clear V1 hy
      go_wp2_with fail
      refine HP.out.mono ?_
      rintro e w4 ⟨rfl, b4⟩
      have B4 := Lib.hid (t_chain B3.out b4)
      clear b4
      go_wp2
      go_ret
      exact ⟨by rw [V2.out]; rfl, B4.out⟩
    | true =>
      have V2 : Hid (IsTransversal_0 xss cs = pmB (symsL xss cs n)) := by have := V1.out; rwa [Bool.true_and] at this
      unfold rpB at hy
      rw [Bool.and_eq_true, decide_eq_true_iff] at hy
      obtain ⟨lc, pc⟩ := hy
      have CR := Lib.hid (fun i (hi : i < n) => pm_mem lc pc hi)
      rw [lc] at hw3
      obtain ⟨ua', uk', eu, k1⟩ := HU.out.1.look lc
      rw [lc] at eu
      simp only [Value.slice.injEq] at eu
      obtain ⟨rfl, -, rfl⟩ := eu
      have HK1 := Lib.hid k1
      rw [lc]
      have SS : Hid (∀ x, symsL xss cs (x + 1) = symsL xss cs x ++ [cellF xss x (cs.getD x 0).toNat]) := fun x => symsL_succ xss cs x
      have BF : Hid (∀ us, BitsOf (symsL xss cs n) us → (us == 2 ^ n - 1) = pmB (symsL xss cs n)) := fun us h => bits_full (symsL_length xss cs n) l2 (fun i hi => by
        have := CR.out i hi
        rw [symsL_getD hi]
        exact CI.out i (cs.getD i 0).toNat hi (by omega)) h
      clear V1 pc lc k1
      go_wp2_with fail
      refine HP.out.mono ?_
      rintro e w4 ⟨rfl, b4⟩
      have s4 := b4.size
      have B4 := t_chain B3.out b4
      have X4 : SqAt w4 g n F := SqAt.below X3.out b4 (by omega)
      have b5 : Below w.heap.size w (w4.alloc (.cells z13 59)) := B4.alloc B4.size _
      have X5 : SqAt (w4.alloc (.cells z13 59)) g n F := (heap_alloc_old _ _ (by omega)).trans X4
      have C5 : Va (w4.alloc (.cells z13 59)) 59 w4.heap.size 13 (tV 0 (fun _ => 0) 0 0) := by unfold Va; rw [heap_alloc_new, zeroTr]
      obtain ⟨w5, hw5⟩ : ∃ w5, w4.alloc (.cells z13 59) = w5 := ⟨_, rfl⟩
      rw [hw5] at b5 X5 C5
      obtain ⟨g7, hg7⟩ : ∃ g7, w4.heap.size = g7 := ⟨_, rfl⟩
      have g57 : g < g7 := by omega
      have wg7 : w.heap.size ≤ g7 := by omega
      rw [hg7] at C5
      have B5 := Lib.hid b5
      have Y5 := Lib.hid X5
      have D5 := Lib.hid C5
      have N5 : Hid (BitsOf (symsL xss cs 0) 0) := BitsOf.nil
      have hz13 : z13 = #[.int .i64 0, .int .i64 0, .int .i64 0, .int .i64 0, .int .i64 0, .int .i64 0, .int .i64 0, .int .i64 0, .int .i64 0, .int .i64 0, .int .i64 0, .int .u32 0, .int .u32 0] := rfl
      rw [hz13] at hw5
      clear hz13 b4 B4 X4 b5 X5 C5 HP
      go_wp2
      clear hw5 hg7 st1 o2 hw2 hw3
      go_loopw [27] (fun i wr => ∃ x : Nat, ∃ c uc us, x ≤ n ∧ i = .int .i64 x ∧ uc < 4294967296 ∧ us < 4294967296 ∧ Hid (Va wr 59 g7 13 (tV x c uc us)) ∧ Hid (BitsOf (symsL xss cs x) us) ∧ Hid (SqAt wr g n F) ∧ Hid (Below w.heap.size w wr)) (fun i _ => n - (intOf i).toNat)
      case atStart => exact ⟨0, _, 0, 0, by omega, rfl, by omega, by omega, D5, N5, Y5, B5⟩
      case round =>
        obtain ⟨x, c, uc, us, hx, rfl, huc, hus, hV, hN, hX, hBl⟩ := hrel
        by_cases cx : x < n
        · have k1 : decide (x < n) = true := by simpa using cx
          have k1' : decide ((x : Int) < (n : Int)) = true := decide_eq_true (by omega)
          have wx3 := IntWalk.i64_in ((x : Int) + 1) (by omega)
          have x0 : (0 : Int) ≤ (x : Int) := by omega
          have x1 : (x : Int) < (n : Int) := by omega
          have x2 : (x : Int) < 10 := by omega
          have cr := CR.out x cx
          have ss := SS.out x
          obtain ⟨g3, f3, rfl, m3⟩ := HK1.out wr hBl.out x cx
          obtain ⟨q, hq⟩ : ∃ q, cs.getD x 0 = q := ⟨_, rfl⟩
          rw [hq] at cr ss m3
          obtain ⟨t, rfl⟩ : ∃ t : Nat, q = t := ⟨q.toNat, by omega⟩
          rw [Int.toNat_natCast] at ss
          have t0 : (0 : Int) ≤ (t : Int) := by omega
          have t1 : (t : Int) < 10 := by omega
          have fc := FC.out x t cx (by omega)
          have ci := CI.out x t cx (by omega)
          have m1 := Ia.cell hX.out (1 + x * 10 + t) (by omega)
          rw [sqC_at _ _ (by omega), fc] at m1
          obtain ⟨y, hy⟩ : ∃ y, cellF xss x t = y := ⟨_, rfl⟩
          rw [hy] at m1 ss ci
          obtain ⟨s, rfl⟩ : ∃ s : Nat, y = s := ⟨y.toNat, by omega⟩
          have HW := Lib.hid (fun W => iwith x (by omega) c uc us t s (by omega) (by omega) huc hus W)
          have tp1 : 2 ^ t < 2 ^ 32 := Nat.pow_lt_pow_right (by omega) (by omega)
          have tp2 : 2 ^ s < 2 ^ 32 := Nat.pow_lt_pow_right (by omega) (by omega)
          have z1 : uc ||| 2 ^ t < 4294967296 := Nat.or_lt_two_pow (n := 32) huc tp1
          have z2 : us ||| 2 ^ s < 4294967296 := Nat.or_lt_two_pow (n := 32) hus tp2
          have N2 : Hid (BitsOf (symsL xss cs (x + 1)) (us ||| 2 ^ s)) := by unfold Hid; rw [ss]; exact BitsOf.snoc hN.out z2 (fun i => Nat.testBit_or ..)
          obtain ⟨uc2, huc2⟩ : ∃ uc2, uc ||| 2 ^ t = uc2 := ⟨_, rfl⟩
          obtain ⟨us2, hus2⟩ : ∃ us2, us ||| 2 ^ s = us2 := ⟨_, rfl⟩
          obtain ⟨c2, hc2⟩ : ∃ c2, updI c (1 + x) t = c2 := ⟨_, rfl⟩
          rw [huc2] at z1
          rw [hus2] at z2 N2
          simp only [huc2, hus2, hc2] at HW
          obtain ⟨L, hL⟩ : ∃ L, tV x c uc us = L := ⟨_, rfl⟩
          obtain ⟨M, hM⟩ : ∃ M, tV (x + 1) c2 uc2 us2 = M := ⟨_, rfl⟩
          have hMo : ∀ i, i < 13 → (M i).oneCell' = true := fun i _ => by rw [← hM]; exact tV_one _ _ _ _ i
          rw [hL] at hV
          simp only [hL, hM] at HW
          have VD : Va wr.drew 59 g7 13 L := hV.out
          have XD : Hid (SqAt wr.drew g n F ∧ (∃ V, Va wr.drew 59 g7 13 V) ∧ Below w.heap.size w wr.drew) := ⟨hX.out, ⟨L, hV.out⟩, hBl.out.drew⟩
          have KEY : Hid (∀ W : World, Hid (SqAt W g n F ∧ (∃ V, Va W 59 g7 13 V) ∧ Below w.heap.size w W) → W.cell? ⟨g, 1 + x * 10 + t, none⟩ = some (.int .i64 s) ∧ Hid (SqAt W g n F ∧ (∃ V, Va W 59 g7 13 V) ∧ Below w.heap.size w W)) := fun W h => by
            have m := Ia.cell h.out.1 (1 + x * 10 + t) (by omega)
            rw [sqC_at _ _ (by omega), fc, hy] at m
            exact ⟨m, h⟩
          clear ss hq cr fc ci hy m1 hL huc2 hus2 hc2 tp1 tp2
          go_wp2
          refine wp_region_held_drew (S := fun W => W.cell? ⟨g, 1 + x * 10 + t, none⟩ = some (.int .i64 s) ∧ Hid (SqAt W g n F ∧ (∃ V, Va W 59 g7 13 V) ∧ Below w.heap.size w W)) (by kernel_rfl) (KEY.out _ XD) (fun hHeld => ?_)
          obtain ⟨wd, hwd⟩ : ∃ wd, wr.drew = wd := ⟨_, rfl⟩
          rw [hwd] at hHeld VD XD
          rw [hwd]
          clear hwd
          refine wpAnyH_take (i := 1) (oi := { dst := some 33, op := Op.move (Operand.tmp 9), type := 2, pos := "l07_orthogonal.go:242", after := #[], guard := none }) (v := ?_) rfl (by kernel_rfl) (by kernel_rfl) (by kernel_rfl) (fun _ _ _ h => h) (Or.inl ⟨by rfl, ?_⟩) (by assumption) ?_
          rotate_left
          · intro w hSw; (try dsimp only at hSw); go_simp
            try with_reducible rfl
          simp only [Act.put, List.setIfInBounds_toArray, List.set_cons_zero, List.set_cons_succ]
          refine wpAnyH_take (i := 2) (oi := { dst := some 34, op := Op.move (Operand.tmp 8), type := 3, pos := "l07_orthogonal.go:242", after := #[], guard := none }) (v := ?_) rfl (by kernel_rfl) (by kernel_rfl) (by kernel_rfl) (fun _ _ _ h => h) (Or.inl ⟨by rfl, ?_⟩) (by assumption) ?_
          rotate_left
          · intro w hSw; (try dsimp only at hSw); go_simp
            try with_reducible rfl
          simp only [Act.put, List.setIfInBounds_toArray, List.set_cons_zero, List.set_cons_succ]
          refine wpAnyH_take (i := 3) (oi := { dst := some 35, op := Op.move (Operand.tmp 9), type := 2, pos := "l07_orthogonal.go:242", after := #[], guard := none }) (v := ?_) rfl (by kernel_rfl) (by kernel_rfl) (by kernel_rfl) (fun _ _ _ h => h) (Or.inl ⟨by rfl, ?_⟩) (by assumption) ?_
          rotate_left
          · intro w hSw; (try dsimp only at hSw); go_simp
            try with_reducible rfl
          simp only [Act.put, List.setIfInBounds_toArray, List.set_cons_zero, List.set_cons_succ]
          refine wpAnyH_take (i := 4) (oi := { dst := some 36, op := Op.fieldAddr 46 (Operand.tmp 5) 1, type := 0, pos := "l07_orthogonal.go:242", after := #[], guard := none }) (v := ?_) rfl (by kernel_rfl) (by kernel_rfl) (by kernel_rfl) (fun _ _ _ h => h) (Or.inl ⟨by rfl, ?_⟩) (by assumption) ?_
          rotate_left
          · intro w hSw; (try dsimp only at hSw); go_simp
            try with_reducible rfl
          simp only [Act.put, List.setIfInBounds_toArray, List.set_cons_zero, List.set_cons_succ]
          refine wpAnyH_take (i := 5) (oi := { dst := some 37, op := Op.indexAddr 44 (Operand.tmp 36) (Operand.tmp 34), type := 0, pos := "l07_orthogonal.go:242", after := #[{ on := 4, ground := Ground.data }, { on := 2, ground := Ground.data }], guard := none }) (v := ?_) rfl (by kernel_rfl) (by kernel_rfl) (by kernel_rfl) (fun _ _ _ h => h) (Or.inl ⟨by rfl, ?_⟩) (by assumption) ?_
          rotate_left
          · intro w hSw; (try dsimp only at hSw); go_simp
            try with_reducible rfl
          simp only [Act.put, List.setIfInBounds_toArray, List.set_cons_zero, List.set_cons_succ]
          refine wpAnyH_take (i := 6) (oi := { dst := some 38, op := Op.indexAddr 42 (Operand.tmp 37) (Operand.tmp 35), type := 0, pos := "l07_orthogonal.go:242", after := #[{ on := 5, ground := Ground.data }, { on := 3, ground := Ground.data }], guard := none }) (v := ?_) rfl (by kernel_rfl) (by kernel_rfl) (by kernel_rfl) (fun _ _ _ h => h) (Or.inl ⟨by rfl, ?_⟩) (by assumption) ?_
          rotate_left
          · intro w hSw; (try dsimp only at hSw); go_simp
            try with_reducible rfl
          simp only [Act.put, List.setIfInBounds_toArray, List.set_cons_zero, List.set_cons_succ]
          refine wpAnyH_take (i := 7) (oi := { dst := some 39, op := Op.load 2 (Operand.tmp 38), type := 2, pos := "l07_orthogonal.go:242", after := #[{ on := 6, ground := Ground.data }], guard := none }) (v := ?_) rfl (by kernel_rfl) (by kernel_rfl) (by kernel_rfl) (fun _ _ _ h => h) (Or.inl ⟨by rfl, ?_⟩) (by assumption) ?_
          rotate_left
          · intro w hSw; (try dsimp only at hSw); go_simp
            try with_reducible rfl
          simp only [Act.put, List.setIfInBounds_toArray, List.set_cons_zero, List.set_cons_succ]
          refine wpAnyH_ready (rs := [0]) (by kernel_rfl) (by simp) ?_
          refine AllReadyH.cons rfl (fun K hK => ?_) AllReadyH.nil
          rw [if_pos (by rfl)]
          refine wp_load_row 59 (.tmp 7) rfl _ rfl _ _ _ _ VD Try.underlying59 rfl (by rw [var_size]; exact Try.infoTr) ?_
          simp only [Act.put, List.setIfInBounds_toArray, List.set_cons_zero, List.set_cons_succ]
          refine hK.out _ _ (KEY.out _ XD) (fun hHeld => ?_)
          clear hK K
          refine wpAnyH_ready (rs := [8]) (by kernel_rfl) (by simp) ?_
          refine AllReadyH.cons rfl (fun K hK => ?_) AllReadyH.nil
          go_simp
          go_wp2_with (go_at_call 54; refine (HW.out _).mono ?_; rintro e w6 ⟨rfl, b6⟩; have V6 := Lib.hid (Va.below VD b6 (Va.lt VD)); have X6 := Lib.hid (SqAt.below XD.out.1 b6 (Ia.lt XD.out.1)); have B6 := Lib.hid (t_chain XD.out.2.2 b6))
          have XE : Hid (SqAt w6 g n F ∧ (∃ V, Va w6 59 g7 13 V) ∧ Below w.heap.size w w6) := ⟨X6.out, ⟨_, V6.out⟩, B6.out⟩
          refine hK.out _ _ (KEY.out _ XE) (fun hHeld => ?_)
          clear hK K
          have st6 := Va.stores (U := M) V6.out Try.infoTr hMo
          have V7 : Va (w6.setRow g7 (var 13 M)) 59 g7 13 M := Va.row V6.out
          have X7 : SqAt (w6.setRow g7 (var 13 M)) g n F := (setRow_other _ g7 g _ (by omega)).trans X6.out
          have B7 : Below w.heap.size w (w6.setRow g7 (var 13 M)) := below_row B6.out wg7 _
          have XF : Hid (SqAt (w6.setRow g7 (var 13 M)) g n F ∧ (∃ V, Va (w6.setRow g7 (var 13 M)) 59 g7 13 V) ∧ Below w.heap.size w (w6.setRow g7 (var 13 M))) := ⟨X7, ⟨_, V7⟩, B7⟩
          obtain ⟨w7, hw7⟩ : ∃ w7, w6.setRow g7 (var 13 M) = w7 := ⟨_, rfl⟩
          rw [hw7] at st6 V7 X7 B7 XF
          have HV7 := Lib.hid V7
          have HX7 := Lib.hid X7
          have HB7 := Lib.hid B7
          clear V7 X7 B7 hw7
          obtain ⟨Y, hY⟩ : ∃ Y, var 13 M = Y := ⟨_, rfl⟩
          have hYs : Y.size = 13 := by rw [← hY, var_size]
          rw [hY] at st6
          simp only [hY]
          refine wpAnyH_ready (rs := [9]) (by kernel_rfl) (by simp) ?_
          refine AllReadyH.cons rfl (fun K hK => ?_) AllReadyH.nil
          go_simp
          refine hK.out _ _ (KEY.out _ XF) (fun hHeld => ?_)
          clear hK K
          refine wpAnyH_done (by kernel_rfl) ?_ _
          go_wp2
          go_roundw
          case rel => exact ⟨x + 1, c2, uc2, us2, by omega, by go_num, z1, z2, by rw [hM]; exact HV7, N2, HX7, HB7⟩
          case measure => simp [intOf]; omega
        · have k1 : decide (x < n) = false := by simpa using cx
          have k1' : decide ((x : Int) < (n : Int)) = false := decide_eq_false (by omega)
          obtain rfl : x = n := by omega
          have e1 : wr.drew.cell? ⟨g7, 12, none⟩ = some (.int .u32 us) := hV.out.cell 12 (by omega)
          have e2 : wr.drew.cell? ⟨g, 0, none⟩ = some (.int .i64 x) := SqAt.order hX.out
          have IB := Lib.hid (fun W => ibelow x l2 W)
          have bf := BF.out us hN.out
          have V3 := Lib.hid V2.out
          obtain ⟨p, hp⟩ : ∃ p, 2 ^ x - 1 = p := ⟨_, rfl⟩
          obtain ⟨z, hz⟩ : ∃ z, pmB (symsL xss cs x) = z := ⟨_, rfl⟩
          simp only [hp] at IB
          rw [hp, hz] at bf
          rw [hz] at V3
          have ee : (((us : Nat) : Int) == ((p : Nat) : Int)) = z := by
            rw [← bf]
            by_cases h : us = p
            · subst h; simp
            · have h2 : ¬ ((us : Int) = (p : Int)) := by omega
              rw [beq_eq_false_iff_ne.2 h, beq_eq_false_iff_ne.2 h2]
          have BD : Hid (Below w.heap.size w wr.drew) := hBl.out.drew
          clear hp hz bf
          go_wp2
          refine wp_region_still_lit (by kernel_rfl) (by kernel_rfl) ?_
          still_step
          still_step
          still_step
          still_step
          still_call (IB.out _)
          still_step
          still_step
          refine wpStill_nil ?_
          go_wp2
          go_ret
          exact ⟨by rw [V3.out]; rfl, BD.out⟩
end Go.Proofs.Ytkonddifmonkcaa
