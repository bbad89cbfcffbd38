/- Two squares out of rows. -/
import Derived.Test.YtkonddifmonkcaaLsq
import Derived.OwnWalk
import Derived.Deep.RegionHeld2
namespace Go.Proofs.Ytkonddifmonkcaa
open Go.RowKit Go.Shelf
set_option linter.unusedVariables false
set_option linter.unusedSimpArgs false

/-- Three results: two variables of several cells, and a temporary. -/
theorem results_cell2_tmp {P : Program} {fn : Func} {p q t : Tmp} {ty : TypeId} (h : fn.results = #[.cell p ty, .cell q ty, .tmp t]) (tmps : Array Value) (w : World) (g g2 : Nat) (T : TypeId) (cs cs2 : Array Value) (fr fr2 : Nat × Nat) (d : TypeDesc)
    (hp : tmps.getD p undef = .pointer (some ⟨g, 0, none⟩)) (hq : tmps.getD q undef = .pointer (some ⟨g2, 0, none⟩)) (v : Value) (ht : tmps.getD t undef = v) (hg : w.heap[g]? = some (.cells cs T fr)) (hg2 : w.heap[g2]? = some (.cells cs2 T fr2))
    (hu : P.underlying ty = some d) (hd : (match d with | .struct _ | .array _ _ => true | _ => false) = true) (hi : (P.info? ty).map (·.size) = some cs.size) (hi2 : (P.info? ty).map (·.size) = some cs2.size) :
    (results fn tmps).run P w = .ok (.tuple #[.agg cs, .agg cs2, v]) w := by
  have hp' : tmps[p]?.getD undef = .pointer (some ⟨g, 0, none⟩) := by simpa using hp
  have hq' : tmps[q]?.getD undef = .pointer (some ⟨g2, 0, none⟩) := by simpa using hq
  have ht' : tmps[t]?.getD undef = v := by simpa using ht
  simp [results, h, hp', hq', ht', asAddr, run_loadVar_row w g T ty cs fr d hg hu hd hi, run_loadVar_row w g2 T ty cs2 fr2 d hg2 hu hd hi2]

set_option maxRecDepth 100000 in
set_option maxHeartbeats 4000000 in
theorem ilsq2 (w : World) (v u : Value) (xss yss : List (List Int)) (hv : RowsAt w v xss) (hu : RowsAt w u yss) :
    Calls Try.prog 41 #[v, u] w fun e w' => ∃ n f m g, e = .returned (.tuple #[.agg (iar 101 (sqC n f)), .agg (iar 101 (sqC m g)), .bool (sqB xss && sqB yss)]) ∧
      (sqB xss = true → n = xss.length ∧ f = sqF xss.length (cellF xss)) ∧ (sqB yss = true → m = yss.length ∧ g = sqF yss.length (cellF yss)) ∧ Below w.heap.size w w' := by
  obtain ⟨b, hb⟩ : ∃ b, w.heap.size = b := ⟨_, rfl⟩
  have q1 : (w.alloc (.cells Try.zeroCells46 46)).heap.size = b + 1 := by rw [World.size_alloc, hb]
  have b1 : Below b w (w.alloc (.cells Try.zeroCells46 46)) := (Below.refl _ _).alloc (by omega) _
  have A1 : SqAt (w.alloc (.cells Try.zeroCells46 46)) b 0 (fun _ _ => 0) := by unfold SqAt Ia; rw [← sqC_zeros, ← hb, heap_alloc_new, zeroSq]
  obtain ⟨w1, hw1⟩ : ∃ w1, w.alloc (.cells Try.zeroCells46 46) = w1 := ⟨_, rfl⟩
  rw [hw1] at q1 b1 A1
  have q2 : (w1.alloc (.cells Try.zeroCells46 46)).heap.size = b + 2 := by rw [World.size_alloc, q1]
  have b2 : Below b w (w1.alloc (.cells Try.zeroCells46 46)) := b1.alloc (by omega) _
  have A2 : SqAt (w1.alloc (.cells Try.zeroCells46 46)) b 0 (fun _ _ => 0) := (heap_alloc_old _ _ (by omega)).trans A1
  have C2 : SqAt (w1.alloc (.cells Try.zeroCells46 46)) (b + 1) 0 (fun _ _ => 0) := by unfold SqAt Ia; rw [← sqC_zeros, ← q1, heap_alloc_new, zeroSq]
  obtain ⟨w2, hw2⟩ : ∃ w2, w1.alloc (.cells Try.zeroCells46 46) = w2 := ⟨_, rfl⟩
  rw [hw2] at q2 b2 A2 C2
  have HA := Lib.hid (ilsq w2 v xss (hv.below b2 (by omega)))
  have HU := Lib.hid (fun W (h : Below w2.heap.size w2 W) => ilsq W u yss (hu.below (b2.trans (h.mono (by omega))) (by omega)))
  obtain ⟨z1, hz1⟩ : ∃ z, sqB xss = z := ⟨_, rfl⟩
  obtain ⟨z2, hz2⟩ : ∃ z, sqB yss = z := ⟨_, rfl⟩
  rw [hz1] at HA ⊢
  simp only [hz2] at HU
  rw [hz2, hb]
  have HHb := Lib.hid hb
  have HB2 := Lib.hid b2
  have HA2 := Lib.hid A2
  have HC2 := Lib.hid C2
  clear hv hu hz1 hz2 b1 A1 b2 A2 C2
  go_enter Try.func41, Try.ntmps41
  go_wp2_with fail
  refine HA.out.mono ?_
  rintro e w3 ⟨n, F, rfl, hA, b3⟩
  have HAA := Lib.hid hA
  have st1 := stores_newSq w3 (sqC n F)
  have s3 := b3.size
  have b4 : Below w2.heap.size w2 (w3.alloc (.cells (iar 101 (sqC n F)) 46)) := b3.alloc s3 _
  have A4 : SqAt (w3.alloc (.cells (iar 101 (sqC n F)) 46)) w3.heap.size n F := heap_alloc_new _ _
  have q4 : (w3.alloc (.cells (iar 101 (sqC n F)) 46)).heap.size = w3.heap.size + 1 := World.size_alloc _ _
  obtain ⟨w4, hw4⟩ : ∃ w4, w3.alloc (.cells (iar 101 (sqC n F)) 46) = w4 := ⟨_, rfl⟩
  obtain ⟨g1, hg1⟩ : ∃ g, w3.heap.size = g := ⟨_, rfl⟩
  rw [hw4] at st1 b4 A4 q4
  rw [hg1] at st1 A4 q4 s3
  have HU2 := Lib.hid (HU.out w4 b4)
  have B4 := Lib.hid b4
  have X4 := Lib.hid A4
  clear hA b3 HA HU b4 A4
  go_wp2_with fail
  refine HU2.out.mono ?_
  rintro e w5 ⟨m, G, rfl, hB, b5⟩
  have HBB := Lib.hid hB
  have s5 := b5.size
  have st3 := stores_newSq w5 (sqC m G)
  have X5 : SqAt w5 g1 n F := SqAt.below X4.out b5 (by omega)
  have B5 : Below w2.heap.size w2 w5 := B4.out.trans (b5.mono B4.out.size)
  have b6 : Below w2.heap.size w2 (w5.alloc (.cells (iar 101 (sqC m G)) 46)) := B5.alloc B5.size _
  have A6 : SqAt (w5.alloc (.cells (iar 101 (sqC m G)) 46)) w5.heap.size m G := heap_alloc_new _ _
  have X6 : SqAt (w5.alloc (.cells (iar 101 (sqC m G)) 46)) g1 n F := (heap_alloc_old _ _ (by omega)).trans X5
  obtain ⟨w6, hw6⟩ : ∃ w6, w5.alloc (.cells (iar 101 (sqC m G)) 46) = w6 := ⟨_, rfl⟩
  obtain ⟨g2, hg2⟩ : ∃ g, w5.heap.size = g := ⟨_, rfl⟩
  rw [hw6] at st3 b6 A6 X6
  rw [hg2] at st3 A6
  have h12 : b + 2 ≤ g1 ∧ b + 2 ≤ g2 := by omega
  have D0 : SqAt w6 b 0 (fun _ _ => 0) := SqAt.below HA2.out b6 (by omega)
  have D1 : SqAt w6 (b + 1) 0 (fun _ _ => 0) := SqAt.below HC2.out b6 (by omega)
  have bw : Below b w w6 := HB2.out.trans (b6.mono (by omega))
  obtain ⟨L, hL⟩ : ∃ L : List Value, (iar 101 (sqC n F)).toList = L := ⟨_, rfl⟩
  have hLA : iar 101 (sqC n F) = L.toArray := by rw [← hL]
  have hLl : L.length = 101 := by rw [← hL, Array.length_toList, iar_size]
  obtain ⟨M, hM⟩ : ∃ M : List Value, (iar 101 (sqC m G)).toList = M := ⟨_, rfl⟩
  have hMA : iar 101 (sqC m G) = M.toArray := by rw [← hM]
  have hMl : M.length = 101 := by rw [← hM, Array.length_toList, iar_size]
  have RG : ∀ (W : World) (g k : Nat) (H : Nat → Nat → Int), SqAt W g k H → W.rangeAt g 0 (iar 101 (sqC k H)).toList := fun W g k H h => by
    have := World.rangeAt_of_block h 0 101
    rwa [Nat.zero_add, show (iar 101 (sqC k H)).extract 0 101 = iar 101 (sqC k H) from by
      have e := iar_size 101 (sqC k H)
      apply Array.extract_eq_self_of_le; omega] at this
  have KEY : Hid (∀ W : World, Hid (SqAt W g1 n F ∧ SqAt W g2 m G ∧ (∃ c, Ia W 46 b 101 c) ∧ (∃ c, Ia W 46 (b + 1) 101 c) ∧ Below b w W) →
      W.rangeAt g1 0 L ∧ W.rangeAt g2 0 M ∧ Hid (SqAt W g1 n F ∧ SqAt W g2 m G ∧ (∃ c, Ia W 46 b 101 c) ∧ (∃ c, Ia W 46 (b + 1) 101 c) ∧ Below b w W)) := fun W h => by
    refine ⟨?_, ?_, h⟩
    · rw [← hL]; exact RG W _ _ _ h.out.1
    · rw [← hM]; exact RG W _ _ _ h.out.2.1
  have ST1 : Hid (∀ W c, Ia W 46 b 101 c → (storeCells ⟨b, 0, none⟩ L 0).run Try.prog W = .ok () (W.setRow b (iar 101 (sqC n F)))) := fun W c h => by have := Ia.stores (d := sqC n F) h; rwa [hL] at this
  have ST2 : Hid (∀ W c, Ia W 46 (b + 1) 101 c → (storeCells ⟨b + 1, 0, none⟩ M 0).run Try.prog W = .ok () (W.setRow (b + 1) (iar 101 (sqC m G)))) := fun W c h => by have := Ia.stores (d := sqC m G) h; rwa [hM] at this
  have XD : Hid (SqAt w6.drew g1 n F ∧ SqAt w6.drew g2 m G ∧ (∃ c, Ia w6.drew 46 b 101 c) ∧ (∃ c, Ia w6.drew 46 (b + 1) 101 c) ∧ Below b w w6.drew) := ⟨X6, A6, ⟨_, D0⟩, ⟨_, D1⟩, bw.drew⟩
  have iL : (Try.prog.info? 46).map (·.size) = some L.length := by rw [hLl]; exact Try.infoSq
  have iM : (Try.prog.info? 46).map (·.size) = some M.length := by rw [hMl]; exact Try.infoSq
  have uL := Try.underlying46
  have NX1 : Hid (∀ W, Hid (SqAt W g1 n F ∧ SqAt W g2 m G ∧ (∃ c, Ia W 46 b 101 c) ∧ (∃ c, Ia W 46 (b + 1) 101 c) ∧ Below b w W) → ∃ c d, Ia W 46 b 101 c ∧ Ia W 46 (b + 1) 101 d) := fun W h => by obtain ⟨-, -, ⟨c, h1⟩, ⟨d, h2⟩, -⟩ := h.out; exact ⟨c, d, h1, h2⟩
  clear b5 B5 b6 A6 X6 X5 D0 D1 bw hB HU2 RG X4 B4 hL hM hLA hMA
  go_wp2
  refine wp_region_held_drew (S := fun W => W.rangeAt g1 0 L ∧ W.rangeAt g2 0 M ∧ Hid (SqAt W g1 n F ∧ SqAt W g2 m G ∧ (∃ c, Ia W 46 b 101 c) ∧ (∃ c, Ia W 46 (b + 1) 101 c) ∧ Below b w W)) (by kernel_rfl) (KEY.out _ XD) (fun hHeld => ?_)
  refine wpAnyH_take (i := 0) (oi := { dst := some 21, op := Op.load 46 (Operand.tmp 7), type := 46, pos := "l06_squares.go:62", after := #[], guard := none }) rfl (by kernel_rfl) (by kernel_rfl) (by kernel_rfl) (fun _ _ _ h => h) (yieldsIf_load_mid (by rfl) _ _ rfl g1 0 rfl L _ (fun w hSw => hSw.1) uL rfl iL) (by assumption) ?_
  simp only [Act.put, List.setIfInBounds_toArray, List.set_cons_zero, List.set_cons_succ]
  refine wpAnyH_take (i := 1) (oi := { dst := some 22, op := Op.load 46 (Operand.tmp 9), type := 46, pos := "l06_squares.go:62", after := #[{ on := 6, ground := Ground.gcOnly Departure.lateStores }], guard := none }) rfl (by kernel_rfl) (by kernel_rfl) (by kernel_rfl) (fun _ _ _ h => h) (yieldsIf_load_mid (by rfl) _ _ rfl g2 0 rfl M _ (fun w hSw => hSw.2.1) uL rfl iM) (by assumption) ?_
  simp only [Act.put, List.setIfInBounds_toArray, List.set_cons_zero, List.set_cons_succ]
  refine wpAnyH_take (i := 2) (oi := { dst := some 23, op := Op.move (Operand.tmp 8), type := 4, pos := "l06_squares.go:62", after := #[], guard := none }) (v := ?_) rfl (by kernel_rfl) (by kernel_rfl) (by kernel_rfl) (fun _ _ _ h => h) (Or.inl ⟨by rfl, ?_⟩) (by assumption) ?_
  rotate_left
  · intro w hSw; (try dsimp only at hSw); go_simp
    try with_reducible rfl
  simp only [Act.put, List.setIfInBounds_toArray, List.set_cons_zero, List.set_cons_succ]
  refine wpAnyH_take (i := 3) (oi := { dst := some 24, op := Op.move (Operand.tmp 23), type := 4, pos := "l06_squares.go:62", after := #[{ on := 2, ground := Ground.data }], guard := none }) (v := ?_) rfl (by kernel_rfl) (by kernel_rfl) (by kernel_rfl) (fun _ _ _ h => h) (Or.inl ⟨by rfl, ?_⟩) (by assumption) ?_
  rotate_left
  · intro w hSw; (try dsimp only at hSw); go_simp
    try with_reducible rfl
  simp only [Act.put, List.setIfInBounds_toArray, List.set_cons_zero, List.set_cons_succ]
  cases z1 with
  | false =>
    refine wpAnyH_take (i := 4) (oi := { dst := some 25, op := Op.move (Operand.tmp 10), type := 4, pos := "l06_squares.go:62", after := #[{ on := 3, ground := Ground.guard }, { on := 7, ground := Ground.gcOnly Departure.lateStores }], guard := some (3, true) }) (v := undef) rfl (by kernel_rfl) (by kernel_rfl) (by kernel_rfl) (fun _ _ _ h => h) (Or.inr ⟨by rfl, rfl⟩) (by assumption) ?_
    simp only [Act.put, List.setIfInBounds_toArray, List.set_cons_zero, List.set_cons_succ]
    refine wpAnyH_take (i := 5) (oi := { dst := some 26, op := Op.pick (Operand.tmp 24) (Operand.tmp 25) (Operand.const (Value.bool false)), type := 4, pos := "l06_squares.go:62", after := #[{ on := 3, ground := Ground.data }, { on := 4, ground := Ground.data }, { on := 7, ground := Ground.gcOnly Departure.lateStores }], guard := none }) (v := ?_) rfl (by kernel_rfl) (by kernel_rfl) (by kernel_rfl) (fun _ _ _ h => h) (Or.inl ⟨by rfl, ?_⟩) (by assumption) ?_
    rotate_left
    · intro w hSw; (try dsimp only at hSw); go_simp
      try with_reducible rfl
    simp only [Act.put, List.setIfInBounds_toArray, List.set_cons_zero, List.set_cons_succ]
    refine wpAnyH_ready (rs := [6]) (by kernel_rfl) (by simp) ?_
    refine AllReadyH.cons rfl (fun K hK => ?_) AllReadyH.nil
    obtain ⟨c1, d1, I1, J1⟩ := NX1.out _ XD
    have P1 := ST1.out _ _ I1
    go_simp
    have X7 : Hid (SqAt (w6.drew.setRow b (iar 101 (sqC n F))) g1 n F ∧ SqAt (w6.drew.setRow b (iar 101 (sqC n F))) g2 m G ∧ (∃ c, Ia (w6.drew.setRow b (iar 101 (sqC n F))) 46 b 101 c) ∧ (∃ c, Ia (w6.drew.setRow b (iar 101 (sqC n F))) 46 (b + 1) 101 c) ∧ Below b w (w6.drew.setRow b (iar 101 (sqC n F)))) :=
      ⟨(setRow_other _ b g1 _ (by omega)).trans XD.out.1, (setRow_other _ b g2 _ (by omega)).trans XD.out.2.1, ⟨_, setRow_heap _ _ _ _ _ _ I1⟩, ⟨_, (setRow_other _ b (b + 1) _ (by omega)).trans J1⟩, below_row XD.out.2.2.2.2 (Nat.le_refl _) _⟩
    have Y7 : Hid (SqAt (w6.drew.setRow b (iar 101 (sqC n F))) b n F) := setRow_heap _ _ _ _ _ _ I1
    clear P1 I1 J1
    obtain ⟨w7, hw7⟩ : ∃ w7, w6.drew.setRow b (iar 101 (sqC n F)) = w7 := ⟨_, rfl⟩
    rw [hw7] at X7 Y7
    rw [hw7]
    refine hK.out _ _ (KEY.out _ X7) (fun hHeld => ?_)
    clear hK K
    refine wpAnyH_ready (rs := [7]) (by kernel_rfl) (by simp) ?_
    refine AllReadyH.cons rfl (fun K hK => ?_) AllReadyH.nil
    obtain ⟨c2, d2, I2, J2⟩ := NX1.out _ X7
    have P2 := ST2.out _ _ J2
    go_simp
    have X8 : Hid (SqAt (w7.setRow (b + 1) (iar 101 (sqC m G))) g1 n F ∧ SqAt (w7.setRow (b + 1) (iar 101 (sqC m G))) g2 m G ∧ (∃ c, Ia (w7.setRow (b + 1) (iar 101 (sqC m G))) 46 b 101 c) ∧ (∃ c, Ia (w7.setRow (b + 1) (iar 101 (sqC m G))) 46 (b + 1) 101 c) ∧ Below b w (w7.setRow (b + 1) (iar 101 (sqC m G)))) :=
      ⟨(setRow_other _ (b + 1) g1 _ (by omega)).trans X7.out.1, (setRow_other _ (b + 1) g2 _ (by omega)).trans X7.out.2.1, ⟨_, (setRow_other _ (b + 1) b _ (by omega)).trans I2⟩, ⟨_, setRow_heap _ _ _ _ _ _ J2⟩, below_row X7.out.2.2.2.2 (by omega) _⟩
    have Y8 : Hid (SqAt (w7.setRow (b + 1) (iar 101 (sqC m G))) b n F) := (setRow_other _ (b + 1) b _ (by omega)).trans Y7.out
    have Z8 : Hid (SqAt (w7.setRow (b + 1) (iar 101 (sqC m G))) (b + 1) m G) := setRow_heap _ _ _ _ _ _ J2
    clear P2 I2 J2
    obtain ⟨w8, hw8⟩ : ∃ w8, w7.setRow (b + 1) (iar 101 (sqC m G)) = w8 := ⟨_, rfl⟩
    rw [hw8] at X8 Y8 Z8
    rw [hw8]
    refine hK.out _ _ (KEY.out _ X8) (fun hHeld => ?_)
    clear hK K
    refine wpAnyH_take (i := 8) (oi := { dst := some 6, op := Op.assign (Operand.tmp 26), type := 4, pos := "l06_squares.go:62", after := #[{ on := 5, ground := Ground.data }, { on := 7, ground := Ground.chain }, { on := 0, ground := Ground.phase }, { on := 1, ground := Ground.phase }, { on := 2, ground := Ground.phase }, { on := 3, ground := Ground.phase }, { on := 4, ground := Ground.phase }, { on := 5, ground := Ground.phase }, { on := 6, ground := Ground.phase }, { on := 7, ground := Ground.phase }], guard := none }) (v := ?_) rfl (by kernel_rfl) (by kernel_rfl) (by kernel_rfl) (fun _ _ _ h => h) (Or.inl ⟨by rfl, ?_⟩) (by assumption) ?_
    rotate_left
    · intro w hSw; (try dsimp only at hSw); go_simp
      try with_reducible rfl
    simp only [Act.put, List.setIfInBounds_toArray, List.set_cons_zero, List.set_cons_succ]
    refine wpAnyH_done (by kernel_rfl) ?_ _
    go_wp2
    refine bodyPost_ret (v := .tuple #[.agg (iar 101 (sqC n F)), .agg (iar 101 (sqC m G)), .bool false]) (results_cell2_tmp Try.results41 _ _ _ _ _ _ _ _ _ _ rfl rfl _ rfl Y8.out Z8.out Try.underlying46 rfl (by rw [iar_size]; exact Try.infoSq) (by rw [iar_size]; exact Try.infoSq)) rfl ⟨n, F, m, G, rfl, HAA.out, HBB.out, X8.out.2.2.2.2⟩
  | true =>
    refine wpAnyH_take (i := 4) (oi := { dst := some 25, op := Op.move (Operand.tmp 10), type := 4, pos := "l06_squares.go:62", after := #[{ on := 3, ground := Ground.guard }, { on := 7, ground := Ground.gcOnly Departure.lateStores }], guard := some (3, true) }) (v := ?_) rfl (by kernel_rfl) (by kernel_rfl) (by kernel_rfl) (fun _ _ _ h => h) (Or.inl ⟨by rfl, ?_⟩) (by assumption) ?_
    rotate_left
    · intro w hSw; (try dsimp only at hSw); go_simp
      try with_reducible rfl
    simp only [Act.put, List.setIfInBounds_toArray, List.set_cons_zero, List.set_cons_succ]
    refine wpAnyH_take (i := 5) (oi := { dst := some 26, op := Op.pick (Operand.tmp 24) (Operand.tmp 25) (Operand.const (Value.bool false)), type := 4, pos := "l06_squares.go:62", after := #[{ on := 3, ground := Ground.data }, { on := 4, ground := Ground.data }, { on := 7, ground := Ground.gcOnly Departure.lateStores }], guard := none }) (v := ?_) rfl (by kernel_rfl) (by kernel_rfl) (by kernel_rfl) (fun _ _ _ h => h) (Or.inl ⟨by rfl, ?_⟩) (by assumption) ?_
    rotate_left
    · intro w hSw; (try dsimp only at hSw); go_simp
      try with_reducible rfl
    simp only [Act.put, List.setIfInBounds_toArray, List.set_cons_zero, List.set_cons_succ]
    refine wpAnyH_ready (rs := [6]) (by kernel_rfl) (by simp) ?_
    refine AllReadyH.cons rfl (fun K hK => ?_) AllReadyH.nil
    obtain ⟨c1, d1, I1, J1⟩ := NX1.out _ XD
    have P1 := ST1.out _ _ I1
    go_simp
    have X7 : Hid (SqAt (w6.drew.setRow b (iar 101 (sqC n F))) g1 n F ∧ SqAt (w6.drew.setRow b (iar 101 (sqC n F))) g2 m G ∧ (∃ c, Ia (w6.drew.setRow b (iar 101 (sqC n F))) 46 b 101 c) ∧ (∃ c, Ia (w6.drew.setRow b (iar 101 (sqC n F))) 46 (b + 1) 101 c) ∧ Below b w (w6.drew.setRow b (iar 101 (sqC n F)))) :=
      ⟨(setRow_other _ b g1 _ (by omega)).trans XD.out.1, (setRow_other _ b g2 _ (by omega)).trans XD.out.2.1, ⟨_, setRow_heap _ _ _ _ _ _ I1⟩, ⟨_, (setRow_other _ b (b + 1) _ (by omega)).trans J1⟩, below_row XD.out.2.2.2.2 (Nat.le_refl _) _⟩
    have Y7 : Hid (SqAt (w6.drew.setRow b (iar 101 (sqC n F))) b n F) := setRow_heap _ _ _ _ _ _ I1
    clear P1 I1 J1
    obtain ⟨w7, hw7⟩ : ∃ w7, w6.drew.setRow b (iar 101 (sqC n F)) = w7 := ⟨_, rfl⟩
    rw [hw7] at X7 Y7
    rw [hw7]
    refine hK.out _ _ (KEY.out _ X7) (fun hHeld => ?_)
    clear hK K
    refine wpAnyH_ready (rs := [7]) (by kernel_rfl) (by simp) ?_
    refine AllReadyH.cons rfl (fun K hK => ?_) AllReadyH.nil
    obtain ⟨c2, d2, I2, J2⟩ := NX1.out _ X7
    have P2 := ST2.out _ _ J2
    go_simp
    have X8 : Hid (SqAt (w7.setRow (b + 1) (iar 101 (sqC m G))) g1 n F ∧ SqAt (w7.setRow (b + 1) (iar 101 (sqC m G))) g2 m G ∧ (∃ c, Ia (w7.setRow (b + 1) (iar 101 (sqC m G))) 46 b 101 c) ∧ (∃ c, Ia (w7.setRow (b + 1) (iar 101 (sqC m G))) 46 (b + 1) 101 c) ∧ Below b w (w7.setRow (b + 1) (iar 101 (sqC m G)))) :=
      ⟨(setRow_other _ (b + 1) g1 _ (by omega)).trans X7.out.1, (setRow_other _ (b + 1) g2 _ (by omega)).trans X7.out.2.1, ⟨_, (setRow_other _ (b + 1) b _ (by omega)).trans I2⟩, ⟨_, setRow_heap _ _ _ _ _ _ J2⟩, below_row X7.out.2.2.2.2 (by omega) _⟩
    have Y8 : Hid (SqAt (w7.setRow (b + 1) (iar 101 (sqC m G))) b n F) := (setRow_other _ (b + 1) b _ (by omega)).trans Y7.out
    have Z8 : Hid (SqAt (w7.setRow (b + 1) (iar 101 (sqC m G))) (b + 1) m G) := setRow_heap _ _ _ _ _ _ J2
    clear P2 I2 J2
    obtain ⟨w8, hw8⟩ : ∃ w8, w7.setRow (b + 1) (iar 101 (sqC m G)) = w8 := ⟨_, rfl⟩
    rw [hw8] at X8 Y8 Z8
    rw [hw8]
    refine hK.out _ _ (KEY.out _ X8) (fun hHeld => ?_)
    clear hK K
    refine wpAnyH_take (i := 8) (oi := { dst := some 6, op := Op.assign (Operand.tmp 26), type := 4, pos := "l06_squares.go:62", after := #[{ on := 5, ground := Ground.data }, { on := 7, ground := Ground.chain }, { on := 0, ground := Ground.phase }, { on := 1, ground := Ground.phase }, { on := 2, ground := Ground.phase }, { on := 3, ground := Ground.phase }, { on := 4, ground := Ground.phase }, { on := 5, ground := Ground.phase }, { on := 6, ground := Ground.phase }, { on := 7, ground := Ground.phase }], guard := none }) (v := ?_) rfl (by kernel_rfl) (by kernel_rfl) (by kernel_rfl) (fun _ _ _ h => h) (Or.inl ⟨by rfl, ?_⟩) (by assumption) ?_
    rotate_left
    · intro w hSw; (try dsimp only at hSw); go_simp
      try with_reducible rfl
    simp only [Act.put, List.setIfInBounds_toArray, List.set_cons_zero, List.set_cons_succ]
    refine wpAnyH_done (by kernel_rfl) ?_ _
    go_wp2
    refine bodyPost_ret (v := .tuple #[.agg (iar 101 (sqC n F)), .agg (iar 101 (sqC m G)), .bool z2]) (results_cell2_tmp Try.results41 _ _ _ _ _ _ _ _ _ _ rfl rfl _ rfl Y8.out Z8.out Try.underlying46 rfl (by rw [iar_size]; exact Try.infoSq) (by rw [iar_size]; exact Try.infoSq)) rfl ⟨n, F, m, G, (by cases z2 <;> rfl), HAA.out (by trivial), HBB.out, X8.out.2.2.2.2⟩
end Go.Proofs.Ytkonddifmonkcaa
