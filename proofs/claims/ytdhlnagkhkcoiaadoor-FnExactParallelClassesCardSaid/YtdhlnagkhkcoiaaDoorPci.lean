/- ParallelClasses: affinePlaneOf; both exported functions. -/
import Derived.Test.YtdhlnagkhkcoiaaDoorFrs
import Derived.Test.YtdhlnagkhkcoiaaDoorPav
namespace Go.Proofs.YtdhlnagkhkcoiaaDoor
open Go.RowKit Go.Shelf
set_option linter.unusedVariables false
set_option linter.unusedSimpArgs false

theorem ends3A {fn : Func} {i j : Nat} (hfn : fn.results = #[.cell i 55, .tmp j]) (W : World) (q : Nat) (z0 z1 z2 : Value) (hk : W.heap[q]? = some (.cells #[z0, z1, z2] 55 (0, 0))) (a b c : Value) (o : Value) (Φ : Ending → World → Prop)
    (hΦ : Φ (.returned (.tuple #[.agg #[a, b, c], o])) (((W.setCell ⟨q, 0, none⟩ a).setCell ⟨q, 1, none⟩ b).setCell ⟨q, 2, none⟩ c)) (tmps : Array Value) (t2 : tmps.getD i undef = .pointer (some ⟨q, 0, none⟩)) (t3 : tmps.getD j undef = o) :
    bodyPost Tryd.prog fn Φ Exit.ret { tmps := tmps, defers := [] } (((W.setCell ⟨q, 0, none⟩ a).setCell ⟨q, 1, none⟩ b).setCell ⟨q, 2, none⟩ c) := by
  obtain ⟨R9, -⟩ := threeA W q _ _ _ a b c _ hk
  obtain ⟨w9, hw9⟩ : ∃ w9, (((W.setCell ⟨q, 0, none⟩ a).setCell ⟨q, 1, none⟩ b).setCell ⟨q, 2, none⟩ c) = w9 := ⟨_, rfl⟩
  rw [hw9] at R9 hΦ ⊢
  have hld := run_loadVar_row (P := Tryd.prog) _ _ 55 55 #[a, b, c] (0, 0) _ R9 Tryd.underlying55 rfl Tryd.infoAf
  have t2' : tmps[i]?.getD undef = .pointer (some ⟨q, 0, none⟩) := by simpa using t2
  have t3' : tmps[j]?.getD undef = o := by simpa using t3
  refine bodyPost_ret (v := .tuple #[.agg #[a, b, c], o]) ?_ rfl hΦ
  rw [results_cell_tmp hfn]
  simp [asAddr, Result.andThen, t2', t3', hld]

def afZ : Value := .agg #[.int .i64 0, .slice none 0 0, .int .i64 0]
/-- What affinePlaneOf leaves. -/
def AfOut (n : Int) (xss : List (List Int)) (B : Nat) (w' : World) (z : Value) : Prop :=
  (affB n xss = false → z = afZ) ∧ (affB n xss = true → ∃ g S, z = .agg #[.int .i64 n, .slice (some ⟨g, 0, none⟩) xss.length xss.length, .int .i64 (kzI xss)] ∧ B ≤ g ∧ Ub w' g xss.length S ∧ SetsF xss xss.length S)
theorem affB_nobal {n : Int} {xss : List (List Int)} (h : ¬ (dPar n xss = true ∧ pzI n xss = 1)) : affB n xss = false := by
  unfold affB
  by_cases h1 : dPar n xss = true
  · rw [decide_eq_false (fun e => h ⟨h1, e⟩)]; simp
  · rw [show dPar n xss = false by simpa using h1]; simp
theorem affB_ne {n : Int} {xss : List (List Int)} {z : Nat} (hz : kzI xss = z) (h : n ≠ (z : Int) * z) : affB n xss = false := by
  unfold affB
  rw [hz, decide_eq_false h]; simp
theorem affB_yes {n : Int} {xss : List (List Int)} {z : Nat} (hd : desB n xss = true) (hb : dPar n xss = true) (hp : pzI n xss = 1) (hz : kzI xss = z) (h : n = (z : Int) * z) : affB n xss = true := by
  unfold affB
  rw [hd, hb, hp, hz, decide_eq_true h]; rfl

set_option maxRecDepth 100000 in
set_option maxHeartbeats 4000000 in
theorem iAfOf (n : Int) (xss : List (List Int)) (hx : xss.length ≤ 1048576) (w : World) (v : Value) (hv : RowsAt w v xss) (ht : Tab w) :
    Calls Tryd.prog 36 #[.agg #[.int .i64 n, v]] w fun e w' => ∃ z, e = .returned (.tuple #[z, .int .i64 (ParallelClasses_1 n xss)]) ∧ AfOut n xss w.heap.size w' z ∧ Below w.heap.size w w' := by
  obtain ⟨va, cap, rfl, -⟩ := hv.shape
  obtain ⟨m, hm⟩ : ∃ m, xss.length = m := ⟨_, rfl⟩
  rw [hm] at hv ⊢
  obtain ⟨B, hB⟩ : ∃ B, w.heap.size = B := ⟨_, rfl⟩
  have hpos : 0 < B := by rw [← hB]; exact ht.pos
  obtain ⟨w1, hw1⟩ : ∃ w1, w.alloc (.cells #[.int .i64 n, .slice va m cap] 27) = w1 := ⟨_, rfl⟩
  have z1 : w1.heap.size = B + 1 := by rw [← hw1, World.size_alloc, hB]
  have b1 : Below B w w1 := by rw [← hw1]; exact (Below.refl _ _).alloc (by omega) _
  have A1 : w1.heap[B]? = some (.cells #[.int .i64 n, .slice va m cap] 27 (0, 0)) := by rw [← hw1, ← hB]; exact heap_alloc_new _ _
  obtain ⟨w2, hw2⟩ : ∃ w2, w1.alloc (.cells #[.int .i64 0, .slice none 0 0, .int .i64 0] 55) = w2 := ⟨_, rfl⟩
  have z2 : w2.heap.size = B + 2 := by rw [← hw2, World.size_alloc, z1]
  have b12 : Below (B + 1) w1 w2 := by rw [← hw2]; exact (Below.refl _ _).alloc (Nat.le_of_eq z1.symm) _
  have b2 : Below B w w2 := b1.trans (b12.mono (Nat.le_succ B))
  have R2 : w2.heap[B + 1]? = some (.cells #[.int .i64 0, .slice none 0 0, .int .i64 0] 55 (0, 0)) := by rw [← hw2, ← z1]; exact heap_alloc_new _ _
  have A2 := (b12.block B (Nat.lt_succ_self B)).trans A1
  obtain ⟨c0, c1⟩ := cells2A w2 B _ _ _ A2
  have HO := Lib.hid (iInc n xss hx w2 _ (hv.below b2 (by omega)) (ht.below b2 hpos))
  rw [z2] at HO
  have HB := Lib.hid hB
  have B2 := Lib.hid b2
  have HR2 := Lib.hid R2
  have TB := Lib.hid ht
  have EN : Hid (∀ (W : World) (cd : Int), W.heap[B + 1]? = some (.cells #[.int .i64 0, .slice none 0 0, .int .i64 0] 55 (0, 0)) → Below B w W → affB n xss = false → ParallelClasses_1 n xss = cd → ∀ (tmps : Array Value), tmps.getD 2 undef = .pointer (some ⟨B + 1, 0, none⟩) → tmps.getD 3 undef = .int .i64 cd →
      bodyPost Tryd.prog Tryd.f36 (fun e w' => ∃ z, e = .returned (.tuple #[z, .int .i64 (ParallelClasses_1 n xss)]) ∧ AfOut n xss w.heap.size w' z ∧ Below w.heap.size w w') Exit.ret { tmps := tmps, defers := [] } (((W.setCell ⟨B + 1, 0, none⟩ (.int .i64 0)).setCell ⟨B + 1, 1, none⟩ (.slice none 0 0)).setCell ⟨B + 1, 2, none⟩ (.int .i64 0))) := fun W cd hk hb hf hc tmps t2 t3 => by
    refine ends3A (fn := Tryd.f36) (i := 2) (j := 3) rfl W (B + 1) _ _ _ hk _ _ _ _ _ ⟨afZ, by rw [hc]; rfl, ⟨fun _ => rfl, fun h => by rw [hf] at h; cases h⟩, ?_⟩ tmps t2 t3
    rw [HB.out]
    exact (threeA W (B + 1) _ _ _ _ _ _ _ hk).2.1 B w (Nat.le_succ B) hb
  have as1 : ∀ v W, (Instr.typeAssert (.iface 55 v) 20 55 true).run Tryd.prog W = .ok (.tuple #[v, .bool true]) W := fun v W => by kernel_rfl
  have as2 : ∀ v W, (Instr.typeAssert (.iface 87 v) 20 55 true).run Tryd.prog W = .ok (.tuple #[.agg #[.int .i64 0, .slice none 0 0, .int .i64 0], .bool false]) W := fun v W => by kernel_rfl
  have as3 : ∀ W, (Instr.typeAssert .nilIface 20 55 true).run Tryd.prog W = .ok (.tuple #[.agg #[.int .i64 0, .slice none 0 0, .int .i64 0], .bool false]) W := fun W => by kernel_rfl
  clear hv A1 b1 A2 R2 b12 b2 ht
  cases hp : desB n xss with
  | false =>
    have V := Lib.hid (pc_no hp).2
    have NT : Hid (affB n xss = false) := by unfold Hid affB; rw [hp]; rfl
    rw [hp] at HO
    clear hp
    go_enter Tryd.func36, Tryd.ntmps36
    go_wp2_with fail
    try rw [hw1]
    try rw [z1]
    try rw [hw2]
    refine HO.out.mono ?_
    rintro e w3 ⟨z, rfl, ⟨hz, -⟩, b3⟩
    obtain rfl := hz rfl
    have s3 : B + 2 ≤ w3.heap.size := by have := b3.size; omega
    have R3 := (b3.block (B + 1) (by omega)).trans HR2.out
    have B3 : Below B w w3 := B2.out.trans (b3.mono (by omega))
    have b34 : Below w3.heap.size w3 (w3.alloc (.cells #[.int .i64 0, .slice none 0 0] 53)) := (Below.refl _ _).alloc (Nat.le_refl _) _
    have R4 := (b34.block (B + 1) (by omega)).trans R3
    have B4 : Below B w (w3.alloc (.cells #[.int .i64 0, .slice none 0 0] 53)) := B3.trans (b34.mono (by omega))
    obtain ⟨d0, d1, d2, f0, f1, f2⟩ := cells3A (w3.alloc (.cells #[.int .i64 0, .slice none 0 0] 53)) (B + 1) _ _ _ _ R4
    have RR4 := Lib.hid R4
    have BB4 := Lib.hid B4
    clear b3 c0 c1 R3 B3 b34 R4 B4
    go_wp2
    exact EN.out _ 1 RR4.out BB4.out NT.out V.out _ rfl rfl
  | true =>
    have D := of_desB hp
    obtain ⟨N, rfl⟩ : ∃ N : Nat, n = N := ⟨n.toNat, by have := D.1; omega⟩
    obtain ⟨z, hz⟩ := kz_nat xss
    have HPl := Lib.hid (fun g S W (hS : SetsF xss m S) (hU : Ub W g m S) (t : Tab W) => iPlaneX N m g S xss hm D hS z hz W hU t)
    have VN : Hid (¬ (dPar N xss = true ∧ pzI N xss = 1) → affB N xss = false) := fun h => affB_nobal h
    have VE : Hid ((N : Int) ≠ (z : Int) * z → affB N xss = false) := fun h => affB_ne hz h
    have VA := Lib.hid (fun h1 h2 h3 => affB_yes (n := N) (xss := xss) (z := z) hp h1 h2 hz h3)
    have V6 : Hid (affB N xss = false → ParallelClasses_1 N xss = 6) := fun h => (pc_state hp h).2
    have V0 : Hid (affB N xss = true → ParallelClasses_1 N xss = 0) := fun h => (pc_ok hp h).2
    have KZ := Lib.hid hz
    have HM := Lib.hid hm
    rw [hp] at HO
    clear hp hz D
    go_enter Tryd.func36, Tryd.ntmps36
    go_wp2_with fail
    try rw [hw1]
    try rw [z1]
    try rw [hw2]
    refine HO.out.mono ?_
    rintro e w3 ⟨zv, rfl, ⟨-, hzv⟩, b3⟩
    obtain ⟨g, S, rfl, hg, hU, hS⟩ := hzv rfl
    rw [hm] at hU hS ⊢
    have s3 : B + 2 ≤ w3.heap.size := by have := b3.size; omega
    have B3 : Below B w w3 := B2.out.trans (b3.mono (by omega))
    have R3 := (b3.block (B + 1) (by omega)).trans HR2.out
    obtain ⟨w4, hw4⟩ : ∃ w4, w3.alloc (.cells #[.int .i64 (N : Int), .slice (some ⟨g, 0, none⟩) m m] 53) = w4 := ⟨_, rfl⟩
    have b34 : Below w3.heap.size w3 w4 := by rw [← hw4]; exact (Below.refl _ _).alloc (Nat.le_refl _) _
    have B4 : Below B w w4 := B3.trans (b34.mono (by omega))
    have R4 := (b34.block (B + 1) (by omega)).trans R3
    have s4 : B + 2 ≤ w4.heap.size := by have := b34.size; omega
    have N4 : w4.heap[w3.heap.size]? = some (.cells #[.int .i64 (N : Int), .slice (some ⟨g, 0, none⟩) m m] 53 (0, 0)) := by rw [← hw4]; exact heap_alloc_new _ _
    obtain ⟨e0, e1⟩ := cells2A w4 _ _ _ _ N4
    have U4 := hU.below b34 hU.lt
    have gl : g < w4.heap.size := U4.lt
    have HR := Lib.hid (HPl.out g S w4 hS U4 (TB.out.below B4 hpos))
    have BB4 := Lib.hid B4
    have RR4 := Lib.hid R4
    have UU4 := Lib.hid U4
    have HSF := Lib.hid hS
    clear b3 hU hS B3 b34 N4 c0 c1 hm B4 R3 R4 U4 s3
    go_wp2_with fail
    try rw [hw4]
    refine HR.out.mono ?_
    rintro e w5 ⟨pv, rfl, hpl, b5⟩
    have B5 : Below B w w5 := BB4.out.trans (b5.mono (by omega))
    have R5 := (b5.block (B + 1) (by omega)).trans RR4.out
    have U5 := Lib.hid (UU4.out.below b5 gl)
    have s5 : B + 2 ≤ w5.heap.size := by have := b5.size; omega
    have gl5 : g < w5.heap.size := U5.out.lt
    clear b5 e0 e1
    have NO : ∀ (W : World), W = w5.alloc (.cells #[.int .i64 0, .slice none 0 0, .int .i64 0] 55) → W.heap[B + 1]? = some (.cells #[.int .i64 0, .slice none 0 0, .int .i64 0] 55 (0, 0)) ∧ Below B w W := fun W hW => by
      subst hW
      have b56 : Below w5.heap.size w5 (w5.alloc (.cells #[.int .i64 0, .slice none 0 0, .int .i64 0] 55)) := (Below.refl _ _).alloc (Nat.le_refl _) _
      exact ⟨(b56.block (B + 1) (by omega)).trans R5, B5.trans (b56.mono (by omega))⟩
    obtain ⟨R6, B6⟩ := NO _ rfl
    obtain ⟨d0, d1, d2, f0, f1, f2⟩ := cells3A _ (B + 1) _ _ _ _ R6
    have RR6 := Lib.hid R6
    have BB6 := Lib.hid B6
    have RR5 := Lib.hid R5
    have BB5 := Lib.hid B5
    clear NO R6 B6 R5 B5
    cases hpl with
    | none h =>
      have V := Lib.hid (VN.out h)
      replace h := Lib.hid h
      go_wp2
      exact EN.out _ 6 RR6.out BB6.out V.out (V6.out V.out) _ rfl rfl
    | other h hp hn h2 =>
      have V := Lib.hid (VE.out hn)
      replace hp := Lib.hid hp
      replace hn := Lib.hid hn
      replace h2 := Lib.hid h2
      replace h := Lib.hid h
      go_wp2
      exact EN.out _ 6 RR6.out BB6.out V.out (V6.out V.out) _ rfl rfl
    | prj h hp h2 hn =>
      have V := Lib.hid (VE.out (by rw [hn]; exact sq_ne (by omega)))
      replace hp := Lib.hid hp
      replace hn := Lib.hid hn
      replace h := Lib.hid h
      unfold prjV
      go_wp2
      exact EN.out _ 6 RR6.out BB6.out V.out (V6.out V.out) _ rfl rfl
    | aff h hp h2 hn =>
      have V := Lib.hid (VA.out h hp hn)
      replace hp := Lib.hid hp
      replace hn := Lib.hid hn
      replace h := Lib.hid h
      clear d0 d1 d2 f0 f1 f2
      obtain ⟨w6, hw6⟩ : ∃ w6, w5.alloc (.cells #[.int .i64 (N : Int), .slice (some ⟨g, 0, none⟩) m m, .int .i64 (z : Int)] 55) = w6 := ⟨_, rfl⟩
      have b56 : Below w5.heap.size w5 w6 := by rw [← hw6]; exact (Below.refl _ _).alloc (Nat.le_refl _) _
      have R7 := (b56.block (B + 1) (by omega)).trans RR5.out
      have B7 : Below B w w6 := BB5.out.trans (b56.mono (by omega))
      have U7 := U5.out.below b56 gl5
      have N7 : w6.heap[w5.heap.size]? = some (.cells #[.int .i64 (N : Int), .slice (some ⟨g, 0, none⟩) m m, .int .i64 (z : Int)] 55 (0, 0)) := by rw [← hw6]; exact heap_alloc_new _ _
      obtain ⟨d0, d1, d2, f0, f1, f2⟩ := cells3A w6 (B + 1) _ _ _ _ R7
      obtain ⟨e0, e1, e2, -, -, -⟩ := cells3A w6 _ _ _ _ _ N7
      have RR7 := Lib.hid R7
      have BB7 := Lib.hid B7
      have UU7 := Lib.hid U7
      clear R7 B7 U7 N7 b56
      unfold affV
      go_wp2
      try rw [hw6]
      obtain ⟨-, T1, T2⟩ := threeA w6 (B + 1) _ _ _ (.int .i64 (N : Int)) (.slice (some ⟨g, 0, none⟩) m m) (.int .i64 (z : Int)) _ RR7.out
      refine ends3A (fn := Tryd.f36) (i := 2) (j := 3) rfl w6 (B + 1) _ _ _ RR7.out _ _ _ _ _ ⟨_, by rw [V0.out V.out]; rfl, ⟨fun h => (by rw [V.out] at h; cases h), fun _ => ⟨g, S, by rw [HM.out, KZ.out], by have := HB.out; omega, ?_, by rw [HM.out]; exact HSF.out⟩⟩, by rw [HB.out]; exact T1 B w (Nat.le_succ B) BB7.out⟩ _ rfl rfl
      rw [HM.out]; exact (T2 g (by omega)).trans UU7.out

/-! ParallelClasses: both exported functions. -/
section
open Go.RowKit Go.Shelf
set_option linter.unusedVariables false
set_option linter.unusedSimpArgs false

theorem par_bits {N : Nat} {xss : List (List Int)} {S : Nat → Nat} (D : Des (N : Int) xss) (hS : SetsF xss xss.length S) {i j : Nat} (hi : i < xss.length) (hj : j < i) {z : Nat} (hz : OpOut (fun a b => a && b) (S i) (S j) z) : parQ xss j i = decide (z = 0) := by
  unfold parQ
  rw [decide_eq_false (show ¬ j = i by omega), Bool.false_or]
  cases hm : meetB (xss.getD j []) (xss.getD i []) with
  | false =>
    have : z = 0 := Nat.eq_of_testBit_eq fun k => by
      rw [hz.2 k, Nat.zero_testBit]
      show ((S i).testBit k && (S j).testBit k) = false
      rw [(hS i hi).2 k, (hS j (by omega)).2 k]
      by_cases a : (k : Int) ∈ xss.getD i []
      · by_cases b : (k : Int) ∈ xss.getD j []
        · rw [meetB_iff.2 ⟨_, b, a⟩] at hm; cases hm
        · rw [decide_eq_false b, Bool.and_false]
      · rw [decide_eq_false a]; rfl
    rw [this]; rfl
  | true =>
    obtain ⟨x, h1, h2⟩ := meetB_iff.1 hm
    obtain ⟨q, hq, e⟩ := List.mem_iff_getElem.1 h2
    have hb := (D.2.2.2 i hi).1.2 q hq
    have e2 : (xss.getD i []).getD q 0 = x := by rw [List.getD_eq_getElem?_getD, List.getElem?_eq_getElem hq]; exact e
    unfold okAt at hb
    rw [e2] at hb
    obtain ⟨y, rfl⟩ : ∃ y : Nat, x = y := ⟨x.toNat, by omega⟩
    have b : z.testBit y = true := by
      rw [hz.2 y]
      show ((S i).testBit y && (S j).testBit y) = true
      rw [(hS i hi).2 y, (hS j (by omega)).2 y, decide_eq_true h1, decide_eq_true h2]; rfl
    have : ¬ z = 0 := fun e => by rw [e, Nat.zero_testBit] at b; cases b
    rw [decide_eq_false this]; rfl

set_option maxRecDepth 100000 in
set_option maxHeartbeats 4000000 in
theorem sParallelClasses (n : Int) (xss : List (List Int)) (W : World) (v : Value) (hv : RowsAt W v xss) :
    Calls Tryd.prog 15 #[.agg #[.int .i64 n, v]] W fun e w' => ∃ r, e = .returned (.tuple #[r, .int .i64 (ParallelClasses_1 n xss)]) ∧ RowsAt w' r (ParallelClasses_0 n xss) ∧ Below W.heap.size W w' := by
  obtain ⟨a, cap, rfl, -⟩ := hv.shape
  obtain ⟨m, hm⟩ : ∃ m, xss.length = m := ⟨_, rfl⟩
  rw [hm] at hv ⊢
  obtain ⟨B, hB⟩ : ∃ B, W.heap.size = B := ⟨_, rfl⟩
  obtain ⟨w1, hw1⟩ : ∃ w1, W.alloc (.cells #[.int .i64 n, .slice a m cap] 27) = w1 := ⟨_, rfl⟩
  have z1 : w1.heap.size = B + 1 := by rw [← hw1, World.size_alloc, hB]
  have b1 : Below B W w1 := by rw [← hw1]; exact (Below.refl _ _).alloc (by omega) _
  have A1 : w1.heap[B]? = some (.cells #[.int .i64 n, .slice a m cap] 27 (0, 0)) := by rw [← hw1, ← hB]; exact heap_alloc_new _ _
  obtain ⟨c0, c1⟩ := cells2A w1 B _ _ _ A1
  have hv1 := hv.below b1 (by omega)
  have HO := Lib.hid (sOk n xss w1 _ B c0 c1 hv1)
  have HA := Lib.hid (fun d => s12Affine n xss (w1.drewN d) _ B c0 c1 (hv1.drewN d))
  have HB := Lib.hid hB
  have B1 := Lib.hid b1
  have BD : Hid (∀ d, Below B W (w1.drewN d)) := fun d => below_drewN b1 d
  have ZD : Hid (∀ d, (w1.drewN d).heap.size = B + 1) := fun d => z1
  cases hp : desB n xss with
  | false =>
    obtain ⟨V0, V1⟩ := pc_no hp
    have V0 := Lib.hid V0
    have V1 := Lib.hid V1
    rw [hp] at HO
    clear hp hv hv1 c0 c1 A1 b1 z1 HA
    go_enter Tryd.func15, Tryd.ntmps15
    go_wp2_with fail
    try rw [hw1]
    try rw [hB]
    refine HO.out.mono ?_
    rintro e w2 ⟨rfl, d, rfl⟩
    go_wp2
    go_ret2
    exact ⟨_, by rw [V1.out]; rfl, by rw [V0.out]; exact RowsAt.nil _ _ _, by rw [HB.out]; exact BD.out d⟩
  | true =>
    rw [hp] at HO
    cases h2 : affB n xss with
    | false =>
      obtain ⟨V0, V1⟩ := pc_state hp h2
      have V0 := Lib.hid V0
      have V1 := Lib.hid V1
      have A0 : AffineOrder_0 n xss = 0 := by unfold AffineOrder_0; rw [h2]; rfl
      simp only [A0] at HA
      clear hp hv hv1 c0 c1 A1 b1 z1 h2 A0
      go_enter Tryd.func15, Tryd.ntmps15
      go_wp2_with fail
      try rw [hw1]
      try rw [hB]
      refine HO.out.mono ?_
      rintro e w2 ⟨rfl, d, rfl⟩
      go_wp2_with fail
      refine (HA.out d).mono ?_
      rintro e w3 ⟨rfl, b3⟩
      have B3 : Hid (Below B W w3) := (BD.out d).trans (b3.mono (by rw [ZD.out d]; exact Nat.le_succ B))
      clear b3
      go_wp2
      go_ret2
      exact ⟨_, by rw [V1.out]; rfl, by rw [V0.out]; exact RowsAt.nil _ _ _, by rw [HB.out]; exact B3.out⟩
    | true =>
      obtain ⟨V0, V1⟩ := pc_ok hp h2
      have V0 := Lib.hid V0
      have V1 := Lib.hid V1
      obtain ⟨N, k, rfl, hk, D, AF⟩ := of_affB h2
      have A0 : AffineOrder_0 (N : Int) xss = k := by unfold AffineOrder_0; rw [h2, if_pos rfl, hk]
      have kn : ¬ (k : Int) = 0 := by have := AF.two; omega
      have t1 : ((k : Int) == 0) = false := by simpa using kn
      simp only [A0] at HA
      have HC := Lib.hid (fun W' (h : Below (B + 1) w1 W') => s12Classes xss (parQ_equ h2) D.2.2.1 W' _ B ((h.cell (p := ⟨B, 1, none⟩) (Nat.lt_succ_self B)).trans c1) (hv1.below h (Nat.le_of_eq z1)))
      have XD : Hid (∀ d, Below (B + 1) w1 (w1.drewN d)) := fun d => below_drewN (Below.refl _ _) d
      replace kn := Lib.hid kn
      clear hp hv hv1 c0 c1 A1 b1 z1 h2 A0 hk AF D
      go_enter Tryd.func15, Tryd.ntmps15
      go_wp2_with fail
      try rw [hw1]
      try rw [hB]
      refine HO.out.mono ?_
      rintro e w2 ⟨rfl, d, rfl⟩
      go_wp2_with fail
      refine (HA.out d).mono ?_
      rintro e w3 ⟨rfl, b3⟩
      have X3 : Below (B + 1) w1 w3 := (XD.out d).trans (b3.mono (by rw [ZD.out d]; exact Nat.le_refl _))
      have B3 : Hid (Below B W w3) := B1.out.trans (X3.mono (Nat.le_succ B))
      have HC3 := Lib.hid (HC.out w3 X3)
      have s3 : B ≤ w3.heap.size := by have := b3.size; rw [ZD.out d] at this; omega
      clear b3 X3
      go_wp2_with fail
      refine HC3.out.mono ?_
      rintro e w4 ⟨r, rfl, h4, b4⟩
      have r4 := h4.at
      have B4 : Hid (Below B W w4) := B3.out.trans (b4.mono s3)
      obtain ⟨va, vc, rfl, -⟩ := h4.at.shape
      obtain ⟨lq, hlq⟩ : ∃ q, (clsL (parQ xss) xss.length).length = q := ⟨_, rfl⟩
      rw [hlq] at r4 ⊢
      have R4 := Lib.hid r4
      clear h4 b4 r4 hlq
      go_wp2
      go_ret2
      exact ⟨_, by rw [V1.out]; rfl, by rw [V0.out]; exact R4.out, by rw [HB.out]; exact B4.out⟩

set_option maxRecDepth 100000 in
set_option maxHeartbeats 4000000 in
theorem iParallelClasses (n : Int) (xss : List (List Int)) (hx : xss.length ≤ 1048576) (W : World) (v : Value) (hv : RowsAt W v xss) (ht : Tab W) :
    Calls Tryd.prog 16 #[.agg #[.int .i64 n, v]] W fun e w' => ∃ r, e = .returned (.tuple #[r, .int .i64 (ParallelClasses_1 n xss)]) ∧ RowsL w' W.heap.size w'.heap.size r (ParallelClasses_0 n xss) ∧ Below W.heap.size W w' := by
  obtain ⟨a, cap, rfl, -⟩ := hv.shape
  obtain ⟨m, hm⟩ : ∃ m, xss.length = m := ⟨_, rfl⟩
  rw [hm] at hv ⊢
  obtain ⟨B, hB⟩ : ∃ B, W.heap.size = B := ⟨_, rfl⟩
  have hpos : 0 < B := by rw [← hB]; exact ht.pos
  obtain ⟨w1, hw1⟩ : ∃ w1, W.alloc (.cells #[.int .i64 n, .slice a m cap] 27) = w1 := ⟨_, rfl⟩
  have z1 : w1.heap.size = B + 1 := by rw [← hw1, World.size_alloc, hB]
  have b1 : Below B W w1 := by rw [← hw1]; exact (Below.refl _ _).alloc (by omega) _
  have A1 : w1.heap[B]? = some (.cells #[.int .i64 n, .slice a m cap] 27 (0, 0)) := by rw [← hw1, ← hB]; exact heap_alloc_new _ _
  obtain ⟨c0, c1⟩ := cells2A w1 B _ _ _ A1
  have HO := Lib.hid (iAfOf n xss hx w1 _ (hv.below b1 (by omega)) (ht.below b1 hpos))
  rw [z1] at HO
  have HB := Lib.hid hB
  have B1 := Lib.hid b1
  clear hv A1 b1 z1 ht
  cases h2 : affB n xss with
  | false =>
    have V : ParallelClasses_0 n xss = [] ∧ ¬ ParallelClasses_1 n xss = 0 := by
      cases hp : desB n xss with
      | false => obtain ⟨q1, q2⟩ := pc_no hp; exact ⟨q1, by rw [q2]; decide⟩
      | true => obtain ⟨q1, q2⟩ := pc_state hp h2; exact ⟨q1, by rw [q2]; decide⟩
    obtain ⟨V0, V1⟩ := V
    have V0 := Lib.hid V0
    have H2 := Lib.hid h2
    obtain ⟨cd, hcd⟩ : ∃ cd, ParallelClasses_1 n xss = cd := ⟨_, rfl⟩
    rw [hcd] at V1 HO ⊢
    have t1 : (cd != 0) = true := by simpa using V1
    clear h2 hcd V1
    go_enter Tryd.func16, Tryd.ntmps16
    go_wp2_with fail
    try rw [hw1]
    refine HO.out.mono ?_
    rintro e w3 ⟨z, rfl, ⟨hz, -⟩, b3⟩
    have hz := hz H2.out
    unfold afZ at hz
    rw [hz]
    clear hz
    have B3 : Below B W w3 := B1.out.trans (b3.mono (by omega))
    have BA : Hid (∀ cs T, Below B W (w3.alloc (.cells cs T))) := fun cs T => B3.alloc (by have := B3.size; omega) _
    clear b3 B3 c0 c1
    go_wp2
    go_ret2
    exact ⟨_, rfl, by rw [V0.out]; exact RowsL.nil _ _ _ (Nat.le_refl _), by rw [HB.out]; exact BA.out _ _⟩
  | true =>
    have H2 := Lib.hid h2
    obtain ⟨N, k, rfl, hk, D, AF⟩ := of_affB h2
    obtain ⟨V0, V1⟩ := pc_ok (desB_true D) h2
    have V0 := Lib.hid V0
    rw [V1] at HO ⊢
    have HPa := Lib.hid (fun g S W' (hS : SetsF xss m S) (hU : Ub W' g m S) => iParallel N (kzI xss) m g S (parQ xss) (by rw [← hm]; exact parQ_equ h2) (fun i j hi hj z hz => par_bits D (by rw [hm]; exact hS) (by omega) hj hz) (by have := D.2.2.1; omega) W' hU (fun i hi => (hS i hi).1))
    rw [hm] at V0
    have HM := Lib.hid hm
    obtain ⟨kz, hkz⟩ : ∃ kz, kzI xss = kz := ⟨_, rfl⟩
    rw [hkz] at HPa
    have HK := Lib.hid hkz
    clear h2 hk D AF V1 hkz
    go_enter Tryd.func16, Tryd.ntmps16
    go_wp2_with fail
    try rw [hw1]
    refine HO.out.mono ?_
    rintro e w3 ⟨z, rfl, ⟨-, hz⟩, b3⟩
    obtain ⟨g, S, rfl, hg, hU, hS⟩ := hz H2.out
    rw [hm] at hU hS ⊢
    rw [HK.out]
    have B3 : Below B W w3 := B1.out.trans (b3.mono (by omega))
    obtain ⟨w4, hw4⟩ : ∃ w4, w3.alloc (.cells #[.int .i64 (N : Int), .slice (some ⟨g, 0, none⟩) m m, .int .i64 kz] 55) = w4 := ⟨_, rfl⟩
    have b34 : Below w3.heap.size w3 w4 := by rw [← hw4]; exact (Below.refl _ _).alloc (Nat.le_refl _) _
    have s3 := B3.size
    have B4 : Below B W w4 := B3.trans (b34.mono (by omega))
    have N4 : w4.heap[w3.heap.size]? = some (.cells #[.int .i64 (N : Int), .slice (some ⟨g, 0, none⟩) m m, .int .i64 kz] 55 (0, 0)) := by rw [← hw4]; exact heap_alloc_new _ _
    obtain ⟨e0, e1, e2, -, -, -⟩ := cells3A w4 _ _ _ _ _ N4
    have HR := Lib.hid (HPa.out g S w4 hS (hU.below b34 hU.lt))
    have BB4 := Lib.hid B4
    have s4 : B ≤ w4.heap.size := by have := b34.size; omega
    clear b3 hU hS B3 b34 N4 c0 c1 hm B4 s3
    go_wp2_with fail
    try rw [hw4]
    refine HR.out.mono ?_
    rintro e w5 ⟨r, rfl, h5, b5⟩
    have R5 := Lib.hid (h5.mono s4 (Nat.le_refl _) (Nat.le_refl _))
    have B5 : Hid (Below B W w5) := BB4.out.trans (b5.mono s4)
    obtain ⟨va, vc, rfl, -⟩ := h5.at.shape
    clear h5 b5
    go_wp2
    go_ret2
    exact ⟨_, rfl, by rw [V0.out, HB.out]; exact R5.out, by rw [HB.out]; exact B5.out⟩
end
end Go.Proofs.YtdhlnagkhkcoiaaDoor
