/- The law of prime factors. -/
import Derived.Test.YtocjdjgfadaljaaDrawN
import Derived.Deep.RegionHeld3
import Derived.Deep.RegionWith
namespace Go.Proofs.Ytocjdjgfadaljaa
open Go.RowKit
set_option linter.unusedVariables false

/-- What the loop of the law keeps of the world: two cells of the list, and all that is older than block B. -/
def Keeps (w w' : World) (g j : Nat) (x y : Int) : Prop := w'.cell? ⟨g, j, none⟩ = some (.int .i64 x) ∧ w'.cell? ⟨g, j - 1, none⟩ = some (.int .i64 y) ∧ Hid (Below w.heap.size w w')
theorem Keeps.next {w w' w'' : World} {g j : Nat} {x y : Int} (h : w'.cell? ⟨g, j, none⟩ = some (.int .i64 x) ∧ w'.cell? ⟨g, j - 1, none⟩ = some (.int .i64 y) ∧ Hid (Below w.heap.size w w')) (hb : Below w'.heap.size w' w'') :
    w''.cell? ⟨g, j, none⟩ = some (.int .i64 x) ∧ w''.cell? ⟨g, j - 1, none⟩ = some (.int .i64 y) ∧ Hid (Below w.heap.size w w'') :=
  ⟨(hb.cell (p := ⟨g, j, none⟩) (World.block_lt_of_cell? w' _ h.1)).trans h.1, (hb.cell (p := ⟨g, j - 1, none⟩) (World.block_lt_of_cell? w' _ h.2.1)).trans h.2.1, h.2.2.out.trans (hb.mono h.2.2.out.size)⟩

theorem Keeps.one {w w' w'' : World} {g j : Nat} {x : Int} (h : w'.cell? ⟨g, j, none⟩ = some (.int .i64 x) ∧ Hid (Below w.heap.size w w')) (hb : Below w'.heap.size w' w'') :
    w''.cell? ⟨g, j, none⟩ = some (.int .i64 x) ∧ Hid (Below w.heap.size w w'') :=
  ⟨(hb.cell (p := ⟨g, j, none⟩) (World.block_lt_of_cell? w' _ h.1)).trans h.1, h.2.out.trans (hb.mono h.2.out.size)⟩

set_option maxHeartbeats 6400000 in
set_option maxRecDepth 100000 in
theorem law_FnFactors (a : Option Addr) (len cap : Nat) (zs : List Int) (w : World) (h : IsRow .u8 w a len cap zs) :
    Calls Try.prog 4 #[.slice a len cap] w fun r w' => r = .returned (.bool true) ∧ Below w.heap.size w w' := by
  by_cases hbig : 1048576 < len
  · have hb : (1048576 : Int) < (len : Int) := by omega
    clear h
    go_enter Try.func4, Try.ntmps4
    go_wp2_with (go_at_call 9; go_in)
    go_ret
    exact ⟨rfl, Below.refl _ _⟩
  have hb : ¬ (1048576 : Int) < (len : Int) := by omega
  have H := Lib.hid h
  have hl : len ≤ 1048576 := by omega
  clear h hbig
  go_enter Try.func4, Try.ntmps4
  go_wp2_with (go_at_call 9; go_in)
  refine (drawFactors _ a len cap zs H.out hl).mono ?_
  rintro e w1 ⟨n, rfl, b1⟩
  have B1 := Lib.hid b1
  clear b1
  by_cases hn : 1 ≤ n ∧ n ≤ 1000000
  · obtain ⟨m, rfl⟩ : ∃ m : Nat, n = m := ⟨n.toNat, by omega⟩
    obtain ⟨n1, n2⟩ := hn
    obtain ⟨xs, hF⟩ := facList_some m (by omega) (by omega)
    have hfl : facList (m : Int) = ints xs := facList_yes (by omega) (by omega) hF
    have F := Lib.hid hF
    have KF := Lib.hid (fun W => by have := ifacAll (m : Int) W; rw [hfl] at this; exact this)
    have KP := Lib.hid (fun W => (ipp (m : Int) W).mono fun e w' (hh : ∃ p k : Int, e = .returned (.tuple #[.int .i64 p, .int .i64 k]) ∧ PpOut m p k W w') => (show ∃ p k : Int, e = .returned (.tuple #[.int .i64 p, .int .i64 k]) ∧ ppVal (ints xs) p k ∧ Below W.heap.size W w' by
      obtain ⟨p, k, he, h1, h2⟩ := hh
      rw [hfl] at h1
      exact ⟨p, k, he, h1, h2⟩))
    have hpr : isPr (m : Int) = decide (xs.length = 1) := by unfold isPr; rw [hfl, ints_length]
    obtain ⟨q, hq⟩ : ∃ q, xs.length = q := ⟨_, rfl⟩
    have hq2 : q ≤ 1000000 := by have := hF.len; omega
    rw [hq] at hpr
    have KI := Lib.hid (fun W => by have := iprime (m : Int) W; rw [hpr] at this; exact this)
    have HQ := Lib.hid hq
    clear hF hfl hpr hq
    go_wp2_with fail
    refine (KF.out _).mono ?_
    rintro e w2 ⟨v, rfl, i2, b2⟩
    obtain ⟨aL, capL, rfl, hcell⟩ := i2.shape
    rw [ints_length, HQ.out] at hcell
    rw [ints_length, HQ.out]
    have HC := Lib.hid hcell
    have B2 := Lib.hid (B1.out.trans (b2.mono B1.out.size))
    clear i2 b2 hcell
    go_wp2_with fail
    refine (KP.out _).mono ?_
    rintro e w3 ⟨p, k, rfl, hv, b3⟩
    have HV := Lib.hid hv
    have HC3 := Lib.hid (show ∀ j, j < q → ∃ g, aL = some ⟨g, 0, none⟩ ∧ g < w2.heap.size ∧ w3.cell? ⟨g, j, none⟩ = some (.int .i64 ((ints xs).getD j 0)) from fun j hj => by
      obtain ⟨g, h1, h2, h3⟩ := HC.out j hj
      exact ⟨g, h1, h2, (b3.cell (p := ⟨g, j, none⟩) h2).trans h3⟩)
    have hs3 : w2.heap.size ≤ w3.heap.size := b3.size
    have B3 := Lib.hid (B2.out.trans (b3.mono B2.out.size))
    clear hv b3 HC
    go_wp2_with fail
    go_loopw [7, 8] (fun pr i wr => ∃ j : Nat, j ≤ q ∧ i = .int .i64 j ∧ pr = .int .i64 (prd (xs.take j) : Nat) ∧ Hid (Below w3.heap.size w3 wr)) (fun _ i _ => q - (intOf i).toNat)
    case atStart => exact ⟨0, by omega, rfl, rfl, Below.refl _ _⟩
    case round =>
      obtain ⟨j, hj, rfl, rfl, hBl⟩ := hrel
      obtain ⟨P, hP⟩ : ∃ P, prd (xs.take j) = P := ⟨_, rfl⟩
      have hP1 : 1 ≤ P ∧ P ≤ m := by rw [← hP]; exact F.out.part j (by rw [HQ.out]; exact hj)
      rw [hP]
      have P1 := hP1.1
      have P2 := hP1.2
      have HP := Lib.hid hP
      clear hP hP1
      by_cases hlt : j < q
      · obtain ⟨g, ha, hg, c0⟩ := HC3.out j hlt
        have hjl : j < xs.length := by rw [HQ.out]; exact hlt
        obtain ⟨x, hx⟩ : ∃ x, xs[j] = x := ⟨_, rfl⟩
        rw [ints_getD xs j hjl, hx] at c0
        have cx : wr.cell? ⟨g, j, none⟩ = some (.int .i64 x) := (hBl.out.cell (p := ⟨g, j, none⟩) (by show g < _; omega)).trans c0
        have hPx : prd (xs.take (j + 1)) = P * x := by rw [prd_snoc xs j hjl, HP.out, hx]
        have hPx2 : P * x ≤ m := by rw [← hPx]; exact (F.out.part (j + 1) (by rw [HQ.out]; exact hlt)).2
        have hxp : Pr x := by rw [← hx]; exact F.out.all.2 _ (List.getElem_mem hjl)
        have x2 : x ≤ m := by
          have : 1 * x ≤ P * x := Nat.mul_le_mul_right x P1
          omega
        have KX := Lib.hid (fun W => by have := iprime (x : Int) W; rw [(isPr_nat x (by have := hxp.1; omega) (by omega)).2 hxp] at this; exact this)
        subst ha
        have S1 := Lib.hid hPx
        have pp0 : (0 : Int) ≤ (P : Int) * (x : Int) := Int.mul_nonneg (by omega) (by omega)
        have pp1 : (P : Int) * (x : Int) ≤ 1000000 := by have := Int.ofNat_le.2 hPx2; rw [Int.natCast_mul] at this; omega
        have pP : ¬ (1000000 : Int) < (P : Int) := by omega
        have i1 : (0 : Int) ≤ (j : Int) := by omega
        have i2 : (j : Int) < (q : Int) := by omega
        by_cases h0 : j = 0
        · have j0 : decide (0 < j) = false := by simp [h0]
          have SB : Hid (Below w3.heap.size w3 wr) := hBl
          clear hx c0 hg hPx hPx2 hxp hBl h0
          go_wp2
          refine wp_region_held_drew (S := (fun w' => w'.cell? ⟨g, j, none⟩ = some (.int .i64 x) ∧ Hid (Below w3.heap.size w3 w'))) (by kernel_rfl) ?_ (fun hHeld => ?_)
          · exact ⟨cx, SB.out.drew⟩
          refine wpAnyH_take (i := 0) (oi := { dst := some 43, op := Op.move (Operand.tmp 4), type := 29, pos := "laws.go:352", after := #[], guard := none }) (v := ?_) rfl (by kernel_rfl) (by kernel_rfl) (by kernel_rfl) (fun _ _ _ h => h) (Or.inl ⟨by rfl, ?_⟩) (by assumption) ?_
          rotate_left
          · intro w hSw; (try dsimp only at hSw); go_simp
            try with_reducible rfl
          simp only [Act.put, List.setIfInBounds_toArray, List.set_cons_zero, List.set_cons_succ]
          refine wpAnyH_take (i := 1) (oi := { dst := some 44, op := Op.move (Operand.tmp 8), type := 3, pos := "laws.go:352", after := #[], guard := none }) (v := ?_) rfl (by kernel_rfl) (by kernel_rfl) (by kernel_rfl) (fun _ _ _ h => h) (Or.inl ⟨by rfl, ?_⟩) (by assumption) ?_
          rotate_left
          · intro w hSw; (try dsimp only at hSw); go_simp
            try with_reducible rfl
          simp only [Act.put, List.setIfInBounds_toArray, List.set_cons_zero, List.set_cons_succ]
          refine wpAnyH_take (i := 2) (oi := { dst := some 45, op := Op.indexAddr 29 (Operand.tmp 43) (Operand.tmp 44), type := 0, pos := "laws.go:352", after := #[{ on := 0, ground := Ground.data }, { on := 1, ground := Ground.data }], guard := none }) (v := ?_) rfl (by kernel_rfl) (by kernel_rfl) (by kernel_rfl) (fun _ _ _ h => h) (Or.inl ⟨by rfl, ?_⟩) (by assumption) ?_
          rotate_left
          · intro w hSw; (try dsimp only at hSw); go_simp
            try with_reducible rfl
          simp only [Act.put, List.setIfInBounds_toArray, List.set_cons_zero, List.set_cons_succ]
          refine wpAnyH_take (i := 3) (oi := { dst := some 46, op := Op.load 2 (Operand.tmp 45), type := 2, pos := "laws.go:352", after := #[{ on := 2, ground := Ground.data }], guard := none }) (v := ?_) rfl (by kernel_rfl) (by kernel_rfl) (by kernel_rfl) (fun _ _ _ h => h) (Or.inl ⟨by rfl, ?_⟩) (by assumption) ?_
          rotate_left
          · intro w hSw; (try dsimp only at hSw); go_simp
            try with_reducible rfl
          simp only [Act.put, List.setIfInBounds_toArray, List.set_cons_zero, List.set_cons_succ]
          refine wpAnyH_ready (rs := [4]) (by kernel_rfl) (by simp) ?_
          refine AllReadyH.cons rfl (fun K hK => ?_) AllReadyH.nil
          go_simp
          go_wp2_with (go_at_call 12; refine (KX.out _).mono ?_; rintro e w4 ⟨rfl, hb4⟩; have hS4 := Keeps.one hHeld hb4; clear hHeld)
          refine hK.out _ _ ?_ (fun hHeld => ?_)
          · exact hS4
          clear hK K
          refine wpAnyH_take (i := 5) (oi := { dst := some 48, op := Op.unOp UnOp.not 4 (Operand.tmp 47), type := 4, pos := "laws.go:352", after := #[{ on := 4, ground := Ground.data }], guard := none }) (v := ?_) rfl (by kernel_rfl) (by kernel_rfl) (by kernel_rfl) (fun _ _ _ h => h) (Or.inl ⟨by rfl, ?_⟩) (by assumption) ?_
          rotate_left
          · intro w hSw; (try dsimp only at hSw); go_simp
            try with_reducible rfl
          simp only [Act.put, List.setIfInBounds_toArray, List.set_cons_zero, List.set_cons_succ]
          refine wpAnyH_take (i := 6) (oi := { dst := some 49, op := Op.move (Operand.tmp 48), type := 4, pos := "laws.go:352", after := #[{ on := 5, ground := Ground.data }, { on := 4, ground := Ground.chain }], guard := none }) (v := ?_) rfl (by kernel_rfl) (by kernel_rfl) (by kernel_rfl) (fun _ _ _ h => h) (Or.inl ⟨by rfl, ?_⟩) (by assumption) ?_
          rotate_left
          · intro w hSw; (try dsimp only at hSw); go_simp
            try with_reducible rfl
          simp only [Act.put, List.setIfInBounds_toArray, List.set_cons_zero, List.set_cons_succ]
          refine wpAnyH_take (i := 7) (oi := { dst := some 50, op := Op.move (Operand.tmp 8), type := 3, pos := "laws.go:352", after := #[{ on := 6, ground := Ground.guard }], guard := some (6, false) }) (v := ?_) rfl (by kernel_rfl) (by kernel_rfl) (by kernel_rfl) (fun _ _ _ h => h) (Or.inl ⟨by rfl, ?_⟩) (by assumption) ?_
          rotate_left
          · intro w hSw; (try dsimp only at hSw); go_simp
            try with_reducible rfl
          simp only [Act.put, List.setIfInBounds_toArray, List.set_cons_zero, List.set_cons_succ]
          refine wpAnyH_take (i := 8) (oi := { dst := some 51, op := Op.binOp BinOp.gtr 3 (Operand.tmp 50) (Operand.const (Value.int IntKind.i64 0)) 3, type := 4, pos := "laws.go:352", after := #[{ on := 7, ground := Ground.data }, { on := 6, ground := Ground.guard }], guard := some (6, false) }) (v := ?_) rfl (by kernel_rfl) (by kernel_rfl) (by kernel_rfl) (fun _ _ _ h => h) (Or.inl ⟨by rfl, ?_⟩) (by assumption) ?_
          rotate_left
          · intro w hSw; (try dsimp only at hSw); go_simp
            try with_reducible rfl
          simp only [Act.put, List.setIfInBounds_toArray, List.set_cons_zero, List.set_cons_succ]
          refine wpAnyH_take (i := 9) (oi := { dst := some 52, op := Op.move (Operand.tmp 51), type := 4, pos := "laws.go:352", after := #[{ on := 8, ground := Ground.data }, { on := 6, ground := Ground.chain }, { on := 6, ground := Ground.guard }], guard := some (6, false) }) (v := ?_) rfl (by kernel_rfl) (by kernel_rfl) (by kernel_rfl) (fun _ _ _ h => h) (Or.inl ⟨by rfl, ?_⟩) (by assumption) ?_
          rotate_left
          · intro w hSw; (try dsimp only at hSw); go_simp
            try with_reducible rfl
          simp only [Act.put, List.setIfInBounds_toArray, List.set_cons_zero, List.set_cons_succ]
          refine wpAnyH_take (i := 10) (oi := { dst := some 53, op := Op.move (Operand.tmp 4), type := 29, pos := "laws.go:352", after := #[{ on := 9, ground := Ground.guard }], guard := some (9, true) }) (v := undef) rfl (by kernel_rfl) (by kernel_rfl) (by kernel_rfl) (fun _ _ _ h => h) (Or.inr ⟨by rfl, rfl⟩) (by assumption) ?_
          simp only [Act.put, List.setIfInBounds_toArray, List.set_cons_zero, List.set_cons_succ]
          refine wpAnyH_take (i := 11) (oi := { dst := some 54, op := Op.move (Operand.tmp 8), type := 3, pos := "laws.go:352", after := #[{ on := 9, ground := Ground.guard }], guard := some (9, true) }) (v := undef) rfl (by kernel_rfl) (by kernel_rfl) (by kernel_rfl) (fun _ _ _ h => h) (Or.inr ⟨by rfl, rfl⟩) (by assumption) ?_
          simp only [Act.put, List.setIfInBounds_toArray, List.set_cons_zero, List.set_cons_succ]
          refine wpAnyH_take (i := 12) (oi := { dst := some 55, op := Op.binOp BinOp.sub 3 (Operand.tmp 54) (Operand.const (Value.int IntKind.i64 1)) 3, type := 3, pos := "laws.go:352", after := #[{ on := 11, ground := Ground.data }, { on := 9, ground := Ground.guard }], guard := some (9, true) }) (v := undef) rfl (by kernel_rfl) (by kernel_rfl) (by kernel_rfl) (fun _ _ _ h => h) (Or.inr ⟨by rfl, rfl⟩) (by assumption) ?_
          simp only [Act.put, List.setIfInBounds_toArray, List.set_cons_zero, List.set_cons_succ]
          refine wpAnyH_take (i := 13) (oi := { dst := some 56, op := Op.indexAddr 29 (Operand.tmp 53) (Operand.tmp 55), type := 0, pos := "laws.go:352", after := #[{ on := 10, ground := Ground.data }, { on := 12, ground := Ground.data }, { on := 9, ground := Ground.guard }], guard := some (9, true) }) (v := undef) rfl (by kernel_rfl) (by kernel_rfl) (by kernel_rfl) (fun _ _ _ h => h) (Or.inr ⟨by rfl, rfl⟩) (by assumption) ?_
          simp only [Act.put, List.setIfInBounds_toArray, List.set_cons_zero, List.set_cons_succ]
          refine wpAnyH_take (i := 14) (oi := { dst := some 57, op := Op.load 2 (Operand.tmp 56), type := 2, pos := "laws.go:352", after := #[{ on := 13, ground := Ground.data }, { on := 9, ground := Ground.guard }], guard := some (9, true) }) (v := undef) rfl (by kernel_rfl) (by kernel_rfl) (by kernel_rfl) (fun _ _ _ h => h) (Or.inr ⟨by rfl, rfl⟩) (by assumption) ?_
          simp only [Act.put, List.setIfInBounds_toArray, List.set_cons_zero, List.set_cons_succ]
          refine wpAnyH_take (i := 15) (oi := { dst := some 58, op := Op.move (Operand.tmp 4), type := 29, pos := "laws.go:352", after := #[{ on := 9, ground := Ground.guard }], guard := some (9, true) }) (v := undef) rfl (by kernel_rfl) (by kernel_rfl) (by kernel_rfl) (fun _ _ _ h => h) (Or.inr ⟨by rfl, rfl⟩) (by assumption) ?_
          simp only [Act.put, List.setIfInBounds_toArray, List.set_cons_zero, List.set_cons_succ]
          refine wpAnyH_take (i := 16) (oi := { dst := some 59, op := Op.move (Operand.tmp 8), type := 3, pos := "laws.go:352", after := #[{ on := 9, ground := Ground.guard }], guard := some (9, true) }) (v := undef) rfl (by kernel_rfl) (by kernel_rfl) (by kernel_rfl) (fun _ _ _ h => h) (Or.inr ⟨by rfl, rfl⟩) (by assumption) ?_
          simp only [Act.put, List.setIfInBounds_toArray, List.set_cons_zero, List.set_cons_succ]
          refine wpAnyH_take (i := 17) (oi := { dst := some 60, op := Op.indexAddr 29 (Operand.tmp 58) (Operand.tmp 59), type := 0, pos := "laws.go:352", after := #[{ on := 15, ground := Ground.data }, { on := 16, ground := Ground.data }, { on := 9, ground := Ground.guard }], guard := some (9, true) }) (v := undef) rfl (by kernel_rfl) (by kernel_rfl) (by kernel_rfl) (fun _ _ _ h => h) (Or.inr ⟨by rfl, rfl⟩) (by assumption) ?_
          simp only [Act.put, List.setIfInBounds_toArray, List.set_cons_zero, List.set_cons_succ]
          refine wpAnyH_take (i := 18) (oi := { dst := some 61, op := Op.load 2 (Operand.tmp 60), type := 2, pos := "laws.go:352", after := #[{ on := 17, ground := Ground.data }, { on := 9, ground := Ground.guard }], guard := some (9, true) }) (v := undef) rfl (by kernel_rfl) (by kernel_rfl) (by kernel_rfl) (fun _ _ _ h => h) (Or.inr ⟨by rfl, rfl⟩) (by assumption) ?_
          simp only [Act.put, List.setIfInBounds_toArray, List.set_cons_zero, List.set_cons_succ]
          refine wpAnyH_take (i := 19) (oi := { dst := some 62, op := Op.binOp BinOp.gtr 2 (Operand.tmp 57) (Operand.tmp 61) 2, type := 4, pos := "laws.go:352", after := #[{ on := 14, ground := Ground.data }, { on := 18, ground := Ground.data }, { on := 9, ground := Ground.guard }], guard := some (9, true) }) (v := undef) rfl (by kernel_rfl) (by kernel_rfl) (by kernel_rfl) (fun _ _ _ h => h) (Or.inr ⟨by rfl, rfl⟩) (by assumption) ?_
          simp only [Act.put, List.setIfInBounds_toArray, List.set_cons_zero, List.set_cons_succ]
          refine wpAnyH_take (i := 20) (oi := { dst := some 63, op := Op.pick (Operand.tmp 52) (Operand.tmp 62) (Operand.const (Value.bool false)), type := 4, pos := "laws.go:352", after := #[{ on := 9, ground := Ground.data }, { on := 19, ground := Ground.data }, { on := 6, ground := Ground.guard }], guard := some (6, false) }) (v := ?_) rfl (by kernel_rfl) (by kernel_rfl) (by kernel_rfl) (fun _ _ _ h => h) (Or.inl ⟨by rfl, ?_⟩) (by assumption) ?_
          rotate_left
          · intro w hSw; (try dsimp only at hSw); go_simp
            try with_reducible rfl
          simp only [Act.put, List.setIfInBounds_toArray, List.set_cons_zero, List.set_cons_succ]
          refine wpAnyH_take (i := 21) (oi := { dst := some 64, op := Op.pick (Operand.tmp 49) (Operand.const (Value.bool true)) (Operand.tmp 63), type := 4, pos := "laws.go:352", after := #[{ on := 6, ground := Ground.data }, { on := 20, ground := Ground.data }], guard := none }) (v := ?_) rfl (by kernel_rfl) (by kernel_rfl) (by kernel_rfl) (fun _ _ _ h => h) (Or.inl ⟨by rfl, ?_⟩) (by assumption) ?_
          rotate_left
          · intro w hSw; (try dsimp only at hSw); go_simp
            try with_reducible rfl
          simp only [Act.put, List.setIfInBounds_toArray, List.set_cons_zero, List.set_cons_succ]
          refine wpAnyH_take (i := 22) (oi := { dst := some 65, op := Op.move (Operand.tmp 64), type := 4, pos := "laws.go:352", after := #[{ on := 21, ground := Ground.data }, { on := 9, ground := Ground.chain }], guard := none }) (v := ?_) rfl (by kernel_rfl) (by kernel_rfl) (by kernel_rfl) (fun _ _ _ h => h) (Or.inl ⟨by rfl, ?_⟩) (by assumption) ?_
          rotate_left
          · intro w hSw; (try dsimp only at hSw); go_simp
            try with_reducible rfl
          simp only [Act.put, List.setIfInBounds_toArray, List.set_cons_zero, List.set_cons_succ]
          refine wpAnyH_take (i := 23) (oi := { dst := some 66, op := Op.move (Operand.tmp 7), type := 2, pos := "laws.go:352", after := #[{ on := 22, ground := Ground.guard }], guard := some (22, false) }) (v := ?_) rfl (by kernel_rfl) (by kernel_rfl) (by kernel_rfl) (fun _ _ _ h => h) (Or.inl ⟨by rfl, ?_⟩) (by assumption) ?_
          rotate_left
          · intro w hSw; (try dsimp only at hSw); go_simp
            try with_reducible rfl
          simp only [Act.put, List.setIfInBounds_toArray, List.set_cons_zero, List.set_cons_succ]
          refine wpAnyH_take (i := 24) (oi := { dst := some 67, op := Op.binOp BinOp.gtr 2 (Operand.tmp 66) (Operand.const (Value.int IntKind.i64 1000000)) 2, type := 4, pos := "laws.go:352", after := #[{ on := 23, ground := Ground.data }, { on := 22, ground := Ground.guard }], guard := some (22, false) }) (v := ?_) rfl (by kernel_rfl) (by kernel_rfl) (by kernel_rfl) (fun _ _ _ h => h) (Or.inl ⟨by rfl, ?_⟩) (by assumption) ?_
          rotate_left
          · intro w hSw; (try dsimp only at hSw); go_simp
            try with_reducible rfl
          simp only [Act.put, List.setIfInBounds_toArray, List.set_cons_zero, List.set_cons_succ]
          refine wpAnyH_take (i := 25) (oi := { dst := some 68, op := Op.pick (Operand.tmp 65) (Operand.const (Value.bool true)) (Operand.tmp 67), type := 4, pos := "laws.go:352", after := #[{ on := 22, ground := Ground.data }, { on := 24, ground := Ground.data }], guard := none }) (v := ?_) rfl (by kernel_rfl) (by kernel_rfl) (by kernel_rfl) (fun _ _ _ h => h) (Or.inl ⟨by rfl, ?_⟩) (by assumption) ?_
          rotate_left
          · intro w hSw; (try dsimp only at hSw); go_simp
            try with_reducible rfl
          simp only [Act.put, List.setIfInBounds_toArray, List.set_cons_zero, List.set_cons_succ]
          refine wpAnyH_done (by kernel_rfl) ?_ _
          have cx4 := hS4.1
          have SB4 : Hid (Below w3.heap.size w3 w4) := hS4.2
          have eP := Lib.hid (Int.natCast_mul P x)
          clear hS4 cx SB
          go_wp2
          go_roundw
          case rel => exact ⟨j + 1, by omega, by go_num, by rw [S1.out, eP.out], SB4⟩
          case measure => simp only [intOf]; omega
        · obtain ⟨g', ha', hg', c1⟩ := HC3.out (j - 1) (by omega)
          obtain rfl : g' = g := by simp at ha'; exact ha'.symm
          obtain ⟨y, hy⟩ : ∃ y, xs[j - 1]'(by omega) = y := ⟨_, rfl⟩
          rw [ints_getD xs (j - 1) (by omega), hy] at c1
          have cy : wr.cell? ⟨g', j - 1, none⟩ = some (.int .i64 y) := (hBl.out.cell (p := ⟨g', j - 1, none⟩) (by show g' < _; omega)).trans c1
          have hyx : y ≤ x := by
            rw [← hy, ← hx]
            have := F.out.rise (j - 1) (by omega)
            simpa only [show j - 1 + 1 = j by omega] using this
          have j0 : decide (0 < j) = true := by simp; omega
          have ty : decide (x < y) = false := by simp; omega
          have e3 : IntKind.i64.wrap ((j : Int) - 1) = (j : Int) - 1 := IntWalk.i64_in _ (by omega)
          have e4 : ((j : Int) - 1).toNat = j - 1 := by omega
          have e5 : 1 ≤ (j : Int) := by omega
          have e6 : (j : Int) - 1 < (q : Int) := by omega
          have e7 : (0 : Int) ≤ (j : Int) - 1 := by omega
          have SB : Hid (Below w3.heap.size w3 wr) := hBl
          clear hx hy c0 c1 ha' hg' hPx hPx2 hxp h0 hBl
          go_wp2
          go_region_held3 (fun w' => w'.cell? ⟨g', j, none⟩ = some (.int .i64 x) ∧ w'.cell? ⟨g', j - 1, none⟩ = some (.int .i64 y) ∧ Hid (Below w3.heap.size w3 w')) (first | exact ⟨cx, cy, SB.out.drew⟩ | assumption)
            (first | (go_at_call 12; refine (KX.out _).mono ?_; rintro e w4 ⟨rfl, hb4⟩; have hS4 := Keeps.next (by assumption) hb4))
          have cx4 := hS4.1
          have SB4 : Hid (Below w3.heap.size w3 w4) := hS4.2.2
          have eP := Lib.hid (Int.natCast_mul P x)
          clear hS4 cx cy SB
          go_wp2
          go_roundw
          case rel => exact ⟨j + 1, by omega, by go_num, by rw [S1.out, eP.out], SB4⟩
          case measure => simp only [intOf]; omega
      · obtain rfl : j = q := by omega
        obtain rfl : P = m := by rw [← HP.out, List.take_of_length_le (by rw [HQ.out]; exact Nat.le_refl _)]; exact F.out.all.1
        have FB := Lib.hid (B3.out.trans (hBl.out.mono B3.out.size))
        have tP : ((P : Int) != (P : Int)) = false := by simp
        have hlen := ints_length xs
        rw [HQ.out] at hlen
        have HLn := Lib.hid hlen
        clear hlen
        by_cases q0 : j = 0
        · have hpk : p = 0 ∧ k = 0 := by
            rcases HV.out with ⟨_, h1, h2⟩ | ⟨h1, _⟩
            · exact ⟨h1, h2⟩
            · exact absurd (List.length_eq_zero_iff.1 (by rw [HLn.out]; exact q0)) h1
          obtain ⟨rfl, rfl⟩ := hpk
          subst q0
          have KI' := Lib.hid (fun W => by have := KI.out W; simpa only [show decide ((0 : Nat) = 1) = false from rfl] using this)
          go_wp2_with fail
          refine (KI'.out _).mono ?_
          rintro e w5 ⟨rfl, b5⟩
          have B5 := Lib.hid (FB.out.trans (b5.mono FB.out.size))
          clear b5
          go_wp2
          go_quiet (fail)
          go_wp2
          go_ret
          exact ⟨rfl, below_drewN B5.out _⟩
        · obtain ⟨g, ha, hg, c0⟩ := HC3.out 0 (by omega)
          obtain ⟨g', ha', hg', c1⟩ := HC3.out (j - 1) (by omega)
          obtain rfl : g' = g := by rw [ha] at ha'; simp at ha'; exact ha'.symm
          obtain ⟨X, hX⟩ : ∃ X, (ints xs).getD 0 0 = X := ⟨_, rfl⟩
          obtain ⟨Y, hY⟩ : ∃ Y, (ints xs).getD (j - 1) 0 = Y := ⟨_, rfl⟩
          rw [hX] at c0
          rw [hY] at c1
          have C0 : wr.cell? ⟨g', 0, none⟩ = some (.int .i64 X) := (hBl.out.cell (p := ⟨g', 0, none⟩) (by show g' < _; omega)).trans c0
          have C1 : wr.cell? ⟨g', j - 1, none⟩ = some (.int .i64 Y) := (hBl.out.cell (p := ⟨g', j - 1, none⟩) (by show g' < _; omega)).trans c1
          have C0' := Lib.hid C0
          have C1' := Lib.hid C1
          have HX := Lib.hid hX
          have HY := Lib.hid hY
          subst ha
          clear hX hY ha' c0 c1 hg hg' C0 C1
          have t0 : decide (0 < j) = true := by simp; omega
          have e1 : (0 : Int) < (j : Int) := by omega
          have e0 : 0 < j := by omega
          have e3 : IntKind.i64.wrap ((j : Int) - 1) = (j : Int) - 1 := IntWalk.i64_in _ (by omega)
          have e4 : ((j : Int) - 1).toNat = j - 1 := by omega
          have e5 : 1 ≤ (j : Int) := by omega
          have e6 : (j : Int) - 1 < (j : Int) := by omega
          have e7 : (0 : Int) ≤ (j : Int) - 1 := by omega
          obtain ⟨c, hc, tc⟩ : ∃ c : Bool, decide (j = 1) = c ∧ ((j : Int) == 1) = c := by
            by_cases e : j = 1
            · exact ⟨true, by simp [e], by simp [e]⟩
            · exact ⟨false, by simp [e], by simp; omega⟩
          have KI' := Lib.hid (fun W => by have := KI.out W; rw [hc] at this; exact this)
          by_cases hXY : X = Y
          · have hpk : p = X ∧ k = j := by
              rcases HV.out with ⟨h1 | h1, _⟩ | ⟨_, _, h3, h4⟩
              · rw [h1] at HLn; have := HLn.out; simp at this; omega
              · rw [HLn.out, HX.out, HY.out] at h1; exact absurd hXY h1
              · exact ⟨by rw [h3, HX.out], by rw [h4, HLn.out]⟩
            obtain ⟨rfl, rfl⟩ := hpk
            have tX : (p == Y) = true := by simpa using hXY
            clear q0 hXY hc
            cases c
            all_goals
              go_wp2_with fail
              refine (KI'.out _).mono ?_
              rintro e w5 ⟨rfl, b5⟩
              have D0 : w5.cell? ⟨g', 0, none⟩ = some (.int .i64 p) := (b5.cell (p := ⟨g', 0, none⟩) (World.block_lt_of_cell? wr _ C0'.out)).trans C0'.out
              have D1 : w5.cell? ⟨g', j - 1, none⟩ = some (.int .i64 Y) := (b5.cell (p := ⟨g', j - 1, none⟩) (World.block_lt_of_cell? wr _ C1'.out)).trans C1'.out
              have B5 := Lib.hid (FB.out.trans (b5.mono FB.out.size))
              clear b5
              go_wp2
              go_quiet (fail)
              go_wp2
              go_ret
              exact ⟨rfl, below_drewN B5.out _⟩
          · have hpk : p = 0 ∧ k = 0 := by
              rcases HV.out with ⟨_, h1, h2⟩ | ⟨_, h2, _⟩
              · exact ⟨h1, h2⟩
              · rw [HLn.out, HX.out, HY.out] at h2; exact absurd h2 hXY
            obtain ⟨rfl, rfl⟩ := hpk
            have tX : (X == Y) = false := by simpa using hXY
            clear q0 hXY hc
            cases c
            all_goals
              go_wp2_with fail
              refine (KI'.out _).mono ?_
              rintro e w5 ⟨rfl, b5⟩
              have D0 : w5.cell? ⟨g', 0, none⟩ = some (.int .i64 X) := (b5.cell (p := ⟨g', 0, none⟩) (World.block_lt_of_cell? wr _ C0'.out)).trans C0'.out
              have D1 : w5.cell? ⟨g', j - 1, none⟩ = some (.int .i64 Y) := (b5.cell (p := ⟨g', j - 1, none⟩) (World.block_lt_of_cell? wr _ C1'.out)).trans C1'.out
              have B5 := Lib.hid (FB.out.trans (b5.mono FB.out.size))
              clear b5
              go_wp2
              go_quiet (fail)
              go_wp2
              go_ret
              exact ⟨rfl, below_drewN B5.out _⟩
  · have H0 : facList n = [] := facList_no (by omega)
    have KF := Lib.hid (fun W => by have := ifacAll n W; rw [H0] at this; exact this)
    have KP := Lib.hid (fun W => (ipp n W).mono fun e w' (hh : ∃ p k : Int, e = .returned (.tuple #[.int .i64 p, .int .i64 k]) ∧ PpOut n p k W w') => (show e = .returned (.tuple #[.int .i64 0, .int .i64 0]) ∧ Below W.heap.size W w' by
      obtain ⟨p, k, he, h1, h2⟩ := hh
      rw [H0] at h1
      rcases h1 with ⟨_, rfl, rfl⟩ | ⟨h3, _⟩
      · exact ⟨he, h2⟩
      · exact absurd rfl h3))
    have hn' : n < 1 ∨ (¬ n < 1 ∧ 1000000 < n) := by omega
    clear hn H0
    rcases hn' with h1 | ⟨h1, h2⟩
    all_goals
      go_wp2_with fail
      refine (KF.out _).mono ?_
      rintro e w2 ⟨v, rfl, i2, b2⟩
      obtain ⟨aL, capL, rfl, _⟩ := i2.shape
      have B2 := Lib.hid (B1.out.trans (b2.mono B1.out.size))
      clear i2 b2
      go_wp2_with fail
      refine (KP.out _).mono ?_
      rintro e w3 ⟨rfl, b3⟩
      have B3 := Lib.hid (B2.out.trans (b3.mono B2.out.size))
      clear b3
      go_wp2
      go_ret
      exact ⟨rfl, B3.out⟩
end Go.Proofs.Ytocjdjgfadaljaa
