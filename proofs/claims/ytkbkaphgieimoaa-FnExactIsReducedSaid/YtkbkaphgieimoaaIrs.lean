/- IsReduced: the program. -/
import Derived.Test.YtkbkaphgieimoaaIeq
import Derived.Deep.MidRow
namespace Go.Proofs.Ytkbkaphgieimoaa
open Go.RowKit Go.Shelf
set_option linter.unusedVariables false
set_option linter.unusedSimpArgs false

theorem Try.infoGrid : (Try.prog.info? 66).map (·.size) = some 100 := by kernel_rfl

theorem run_fieldGrid (C : Array Value) (w : World) : (Instr.field 68 (.agg C) 1).run Try.prog w = .ok (.agg (C.extract 1 101)) w := by kernel_rfl

set_option maxRecDepth 100000 in
set_option maxHeartbeats 4000000 in
theorem iIsReduced (xss : List (List Int)) (hx : SmallLL xss) (w : World) (v : Value) (hv : RowsAt w v xss) :
    Calls Try.prog 47 #[v] w fun e w' => e = .returned (.bool (IsReduced_0 xss)) ∧ Below w.heap.size w w' := by
  have H0 := Lib.hid (ilsq w v xss hv)
  cases hp : sqB xss with
  | false =>
    have V : Hid (IsReduced_0 xss = false) := by unfold IsReduced_0; rw [hp]; rfl
    rw [hp] at H0
    clear hp hv
    go_enter Try.func47, Try.ntmps47
    go_wp2_with fail
    refine H0.out.mono ?_
    rintro e w4 ⟨m, f, rfl, -, b4⟩
    have st := stores_newSq w4 (sqC m f)
    have B5 : Hid (Below w.heap.size w (w4.alloc (.cells (iar 101 (sqC m f)) 68))) := b4.alloc b4.size _
    clear b4
    obtain ⟨w5, hw5⟩ : ∃ w5, w4.alloc (.cells (iar 101 (sqC m f)) 68) = w5 := ⟨_, rfl⟩
    rw [hw5] at st B5
    clear H0 hw5
    go_wp2
    go_quiet (fail)
    go_wp2
    go_ret
    exact ⟨by rw [V.out]; rfl, by first | exact below_drewN B5.out _ | exact B5.out.drew | exact B5.out⟩
  | true =>
    have S := of_sqB hp
    have V : Hid (IsReduced_0 xss = redB xss.length (cellF xss)) := by unfold IsReduced_0; rw [hp]; rfl
    rw [hp] at H0
    have nhi := S.hi
    have nlo := S.lo
    have IQ := Lib.hid S.inSq
    obtain ⟨n, hn⟩ : ∃ n, xss.length = n := ⟨_, rfl⟩
    have EG := eqG_red S hn
    rw [hn] at V nhi nlo IQ
    have HN := Lib.hid hn
    clear hp hv S hn
    go_enter Try.func47, Try.ntmps47
    go_wp2_with fail
    refine H0.out.mono ?_
    rintro e w4 ⟨m, f, rfl, hmf2, b4⟩
    obtain ⟨rfl, rfl⟩ := hmf2 (by trivial)
    rw [HN.out]
    have s4 := b4.size
    have IQ2 : InSq n (sqF n (cellF xss)) := fun x y hx hy => by rw [sqF_in _ hx hy]; exact IQ.out x y hx hy
    obtain ⟨F, hF⟩ : ∃ F, sqF n (cellF xss) = F := ⟨_, rfl⟩
    rw [hF] at IQ2 EG
    rw [hF]
    obtain ⟨b, hb⟩ : ∃ b, redB n (cellF xss) = b := ⟨_, rfl⟩
    rw [hb] at EG V
    have st := stores_newSq w4 (sqC n F)
    have b5 : Below w.heap.size w (w4.alloc (.cells (iar 101 (sqC n F)) 68)) := b4.alloc s4 _
    have A5 : SqAt (w4.alloc (.cells (iar 101 (sqC n F)) 68)) w4.heap.size n F := heap_alloc_new _ _
    obtain ⟨w5, hw5⟩ : ∃ w5, w4.alloc (.cells (iar 101 (sqC n F)) 68) = w5 := ⟨_, rfl⟩
    obtain ⟨g, hg⟩ : ∃ g, w4.heap.size = g := ⟨_, rfl⟩
    rw [hw5] at st b5 A5
    rw [hg] at st A5
    have hgw : w.heap.size ≤ g := by rw [← hg]; exact s4
    have HR := Lib.hid (fun W : World => ired n nlo nhi W F IQ2)
    have EQ : Hid (∀ W : World, (Op.equalIn 10000 66 (.agg ((iar 101 (sqC n F)).extract 1 101)) (.agg ((iar 101 (sqC n (redF n F))).extract 1 101))).run Try.prog W = .ok b W) := fun W => by
      rw [← EG]
      refine eqGrid W _ _ (sqC n F) (sqC n (redF n F)) (fun k hk => ?_) (fun k hk => ?_)
      · rw [Array.getElem?_extract, if_pos (by rw [iar_size]; omega), iar_get _ _ _ (by omega)]
      · rw [Array.getElem?_extract, if_pos (by rw [iar_size]; omega), iar_get _ _ _ (by omega)]
    have KEY : Hid (∀ W : World, Hid (SqAt W g n F ∧ Below w.heap.size w W) → W.rangeAt g 0 (iar 101 (sqC n F)).toList ∧ W.rangeAt g 1 ((iar 101 (sqC n F)).extract 1 101).toList ∧ Hid (SqAt W g n F ∧ Below w.heap.size w W)) := fun W h => by
      refine ⟨?_, World.rangeAt_of_block h.out.1 1 100, h⟩
      have := World.rangeAt_of_block h.out.1 0 101
      rwa [Nat.zero_add, show (iar 101 (sqC n F)).extract 0 101 = iar 101 (sqC n F) from by
        have e := iar_size 101 (sqC n F)
        apply Array.extract_eq_self_of_le; omega] at this
    have NX : Hid (∀ W W' : World, Below W.heap.size W W' → Hid (SqAt W g n F ∧ Below w.heap.size w W) → Hid (SqAt W' g n F ∧ Below w.heap.size w W')) := fun W W' bb h => by
      have hlt := Ia.lt h.out.1
      exact ⟨SqAt.below h.out.1 bb hlt, t_chain h.out.2 bb⟩
    have X5 : Hid (SqAt w5 g n F ∧ Below w.heap.size w w5) := ⟨A5, b5⟩
    have XD := Lib.hid (NX.out w5 w5.drew (Below.refl _ _).drew X5)
    obtain ⟨L, hL⟩ : ∃ L : List Value, (iar 101 (sqC n F)).toList = L := ⟨_, rfl⟩
    have hLA : iar 101 (sqC n F) = L.toArray := by rw [← hL]
    have hLl : L.length = 101 := by rw [← hL, Array.length_toList, iar_size]
    obtain ⟨G, hG⟩ : ∃ G : List Value, ((iar 101 (sqC n F)).extract 1 101).toList = G := ⟨_, rfl⟩
    have hGA : (iar 101 (sqC n F)).extract 1 101 = G.toArray := by rw [← hG]
    have hGl : G.length = 100 := by rw [← hG, Array.length_toList, Array.size_extract, iar_size]; rfl
    obtain ⟨C2, hC2⟩ : ∃ C2, iar 101 (sqC n (redF n F)) = C2 := ⟨_, rfl⟩
    rw [hL, hG] at KEY
    rw [hGA, hC2] at EQ
    rw [hLA, hC2] at HR
    have iL : (Try.prog.info? 68).map (·.size) = some L.length := by rw [hLl]; exact Try.infoSq
    have iG : (Try.prog.info? 66).map (·.size) = some G.length := by rw [hGl]; exact Try.infoGrid
    have uL := Try.underlying68
    have uG := Try.undGrid
    clear b4 b5 A5 IQ2 hF hb H0 IQ EG hL hG hC2 hGl hLl hLA hGA
    go_wp2
    refine wp_region_held_drew (S := fun W => W.rangeAt g 0 L ∧ W.rangeAt g 1 G ∧ Hid (SqAt W g n F ∧ Below w.heap.size w W)) (by kernel_rfl) (KEY.out _ XD.out) (fun hHeld => ?_)
    refine wpAnyH_take (i := 0) (oi := { dst := some 10, op := Op.move (Operand.tmp 4), type := 4, pos := "l06_squares.go:157", after := #[], guard := none }) (v := ?_) rfl (by kernel_rfl) (by kernel_rfl) (by kernel_rfl) (fun _ _ _ h => h) (Or.inl ⟨by rfl, ?_⟩) (by assumption) ?_
    rotate_left
    · intro w hSw; (try dsimp only at hSw); go_simp
      try with_reducible rfl
    simp only [Act.put, List.setIfInBounds_toArray, List.set_cons_zero, List.set_cons_succ]
    refine wpAnyH_take (i := 1) (oi := { dst := some 11, op := Op.move (Operand.tmp 10), type := 4, pos := "l06_squares.go:157", after := #[{ on := 0, ground := Ground.data }], guard := none }) (v := ?_) rfl (by kernel_rfl) (by kernel_rfl) (by kernel_rfl) (fun _ _ _ h => h) (Or.inl ⟨by rfl, ?_⟩) (by assumption) ?_
    rotate_left
    · intro w hSw; (try dsimp only at hSw); go_simp
      try with_reducible rfl
    simp only [Act.put, List.setIfInBounds_toArray, List.set_cons_zero, List.set_cons_succ]
    refine wpAnyH_take (i := 2) (oi := { dst := some 12, op := Op.fieldAddr 68 (Operand.tmp 3) 1, type := 0, pos := "l06_squares.go:157", after := #[{ on := 1, ground := Ground.guard }], guard := some (1, true) }) (v := ?_) rfl (by kernel_rfl) (by kernel_rfl) (by kernel_rfl) (fun _ _ _ h => h) (Or.inl ⟨by rfl, ?_⟩) (by assumption) ?_
    rotate_left
    · intro w hSw; (try dsimp only at hSw); go_simp
      try with_reducible rfl
    simp only [Act.put, List.setIfInBounds_toArray, List.set_cons_zero, List.set_cons_succ]
    refine wpAnyH_take (i := 3) (oi := { dst := some 13, op := Op.load 66 (Operand.tmp 12), type := 66, pos := "l06_squares.go:157", after := #[{ on := 2, ground := Ground.data }, { on := 1, ground := Ground.guard }], guard := some (1, true) }) rfl (by kernel_rfl) (by kernel_rfl) (by kernel_rfl) (fun _ _ _ h => h) (yieldsIf_load_mid (by rfl) _ _ rfl g 1 rfl G _ (fun w hSw => hSw.2.1) uG rfl iG) (by assumption) ?_
    simp only [Act.put, List.setIfInBounds_toArray, List.set_cons_zero, List.set_cons_succ]
    refine wpAnyH_take (i := 4) (oi := { dst := some 14, op := Op.load 68 (Operand.tmp 3), type := 68, pos := "l06_squares.go:157", after := #[{ on := 1, ground := Ground.guard }], guard := some (1, true) }) rfl (by kernel_rfl) (by kernel_rfl) (by kernel_rfl) (fun _ _ _ h => h) (yieldsIf_load_mid (by rfl) _ _ rfl g 0 rfl L _ (fun w hSw => hSw.1) uL rfl iL) (by assumption) ?_
    simp only [Act.put, List.setIfInBounds_toArray, List.set_cons_zero, List.set_cons_succ]
    refine wpAnyH_ready (rs := [5]) (by kernel_rfl) (by simp) ?_
    refine AllReadyH.cons rfl (fun K hK => ?_) AllReadyH.nil
    go_simp
    go_wp2_with (go_at_call 92; refine (HR.out _).mono ?_; rintro e w6 ⟨rfl, b6⟩; have X6 := Lib.hid (NX.out _ _ b6 XD.out))
    refine hK.out _ _ (KEY.out _ X6.out) (fun hHeld => ?_)
    clear hK K
    refine wpAnyH_take (i := 6) (oi := { dst := some 16, op := Op.field 68 (Operand.tmp 15) 1, type := 66, pos := "l06_squares.go:157", after := #[{ on := 5, ground := Ground.data }, { on := 1, ground := Ground.guard }], guard := some (1, true) }) (v := .agg (C2.extract 1 101)) rfl (by kernel_rfl) (by kernel_rfl) (by kernel_rfl) (fun _ _ _ h => h) (Or.inl ⟨by rfl, ?_⟩) (by assumption) ?_
    · intro w hSw; (try dsimp only at hSw); go_simp
      rw [run_fieldGrid]
      rfl
    simp only [Act.put, List.setIfInBounds_toArray, List.set_cons_zero, List.set_cons_succ]
    refine wpAnyH_take (i := 7) (oi := { dst := some 17, op := Op.binOp BinOp.eql 66 (Operand.tmp 13) (Operand.tmp 16) 66, type := 4, pos := "l06_squares.go:157", after := #[{ on := 3, ground := Ground.data }, { on := 6, ground := Ground.data }, { on := 1, ground := Ground.guard }], guard := some (1, true) }) (v := .bool b) rfl (by kernel_rfl) (by kernel_rfl) (by kernel_rfl) (fun _ _ _ h => h) (Or.inl ⟨by rfl, ?_⟩) (by assumption) ?_
    · intro w hSw; (try dsimp only at hSw); go_simp
      rw [EQ.out]
      rfl
    simp only [Act.put, List.setIfInBounds_toArray, List.set_cons_zero, List.set_cons_succ]
    refine wpAnyH_take (i := 8) (oi := { dst := some 18, op := Op.pick (Operand.tmp 11) (Operand.tmp 17) (Operand.const (Value.bool false)), type := 4, pos := "l06_squares.go:157", after := #[{ on := 1, ground := Ground.data }, { on := 7, ground := Ground.data }], guard := none }) (v := ?_) rfl (by kernel_rfl) (by kernel_rfl) (by kernel_rfl) (fun _ _ _ h => h) (Or.inl ⟨by rfl, ?_⟩) (by assumption) ?_
    rotate_left
    · intro w hSw; (try dsimp only at hSw); go_simp
      try with_reducible rfl
    simp only [Act.put, List.setIfInBounds_toArray, List.set_cons_zero, List.set_cons_succ]
    refine wpAnyH_take (i := 9) (oi := { dst := some 2, op := Op.assign (Operand.tmp 18), type := 4, pos := "l06_squares.go:157", after := #[{ on := 8, ground := Ground.data }, { on := 5, ground := Ground.chain }, { on := 0, ground := Ground.phase }, { on := 1, ground := Ground.phase }, { on := 2, ground := Ground.phase }, { on := 3, ground := Ground.phase }, { on := 4, ground := Ground.phase }, { on := 5, ground := Ground.phase }, { on := 6, ground := Ground.phase }, { on := 7, ground := Ground.phase }, { on := 8, ground := Ground.phase }], guard := none }) (v := ?_) rfl (by kernel_rfl) (by kernel_rfl) (by kernel_rfl) (fun _ _ _ h => h) (Or.inl ⟨by rfl, ?_⟩) (by assumption) ?_
    rotate_left
    · intro w hSw; (try dsimp only at hSw); go_simp
      try with_reducible rfl
    simp only [Act.put, List.setIfInBounds_toArray, List.set_cons_zero, List.set_cons_succ]
    refine wpAnyH_done (by kernel_rfl) ?_ _
    go_wp2
    go_ret
    exact ⟨by rw [V.out]; rfl, X6.out.out.2⟩
end Go.Proofs.Ytkbkaphgieimoaa
