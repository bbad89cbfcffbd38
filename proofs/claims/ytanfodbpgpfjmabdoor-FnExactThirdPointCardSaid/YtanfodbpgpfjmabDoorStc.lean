/- Which of two sets comes before, through an interface; whether a list of sets is in order (sort.SliceIsSorted). -/
import Derived.Test.YtanfodbpgpfjmabDoorStx
namespace Go.Proofs.YtanfodbpgpfjmabDoor
open Go.RowKit Go.Shelf
set_option linter.unusedVariables false

set_option maxRecDepth 100000 in
set_option maxHeartbeats 1000000 in
theorem icomes (x y : Nat) (w : World) (hx : x < 4294967296) (hy : y < 4294967296) (ht : Tab w) :
    Calls Tryd.prog 66 #[.iface 87 (.int .u32 x), .iface 87 (.int .u32 y)] w fun e w' => e = .returned (.bool (Op.bytesLess (textOf x) (textOf y))) ∧ Below w.heap.size w w' := by
  have cm : ∀ (v : Value) (W : World), (callMethod (.iface 87 v) "String" #[]).run Tryd.prog W = .ok (.enter 92 #[v]) W := fun v W => by kernel_rfl
  have H1 := Lib.hid (iText x w hx ht)
  have H2 := Lib.hid (fun W h => iText y W hy h)
  have TB := Lib.hid ht
  have hp := ht.pos
  obtain ⟨X, hX⟩ : ∃ X, textOf x = X := ⟨_, rfl⟩
  obtain ⟨Y, hY⟩ : ∃ Y, textOf y = Y := ⟨_, rfl⟩
  rw [hX] at H1 ⊢
  simp only [hY] at H2 ⊢
  clear hX hY ht hx hy
  go_enter Tryd.func66, Tryd.ntmps66
  go_wp2_with fail
  refine H1.out.mono ?_
  rintro e w1 ⟨rfl, b1⟩
  have B1 := Lib.hid b1
  clear b1
  go_wp2_with fail
  refine (H2.out w1 (TB.out.below B1.out hp)).mono ?_
  rintro e w2 ⟨rfl, b2⟩
  have B2 := Lib.hid (t_chain B1.out b2)
  clear b2
  go_wp2
  go_ret
  exact ⟨rfl, B2.out⟩

set_option maxRecDepth 100000 in
set_option maxHeartbeats 1000000 in
theorem iless (b g m cp : Nat) (S : Nat → Nat) (hm : m ≤ 128) (i j : Nat) (hi : i < m) (hj : j < m) (w : World) (hb : w.cell? ⟨b, 0, none⟩ = some (.slice (some ⟨g, 0, none⟩) m cp)) (hU : Uc w g m S) (hS : ∀ i, i < m → S i < 4294967296) (ht : Tab w) :
    Calls Tryd.prog 65 #[.int .i64 i, .int .i64 j, .pointer (some ⟨b, 0, none⟩)] w fun e w' => e = .returned (.bool (Op.bytesLess (textOf (S i)) (textOf (S j)))) ∧ Below w.heap.size w w' := by
  have cc : Tryd.prog.concrete 87 = true := by kernel_rfl
  obtain ⟨wd, hwd⟩ : ∃ wd, w.drew = wd := ⟨_, rfl⟩
  have hb2 : wd.cell? ⟨b, 0, none⟩ = some (.slice (some ⟨g, 0, none⟩) m cp) := by rw [← hwd]; exact hb
  have U2 : Uc wd g m S := by rw [← hwd]; exact hU
  have ci := U2.cell i hi
  have cj := U2.cell j hj
  have HC := Lib.hid (icomes (S i) (S j) w.drew (hS i hi) (hS j hj) ht)
  have B0 : Hid (Below w.heap.size w w.drew) := (Below.refl _ _).drew
  have i0 : (0 : Int) ≤ (i : Int) := by omega
  have i1 : (i : Int) < (m : Int) := by omega
  have j0 : (0 : Int) ≤ (j : Int) := by omega
  have j1 : (j : Int) < (m : Int) := by omega
  obtain ⟨si, hsi⟩ : ∃ s, S i = s := ⟨_, rfl⟩
  obtain ⟨sj, hsj⟩ : ∃ s, S j = s := ⟨_, rfl⟩
  rw [hsi] at ci HC ⊢
  rw [hsj] at cj HC ⊢
  clear hsi hsj U2 hb hU hS ht
  go_enter Tryd.func65, Tryd.ntmps65
  go_wp2
  refine wp_region_still_tail 10 (by kernel_rfl) (by kernel_rfl) ?_
  simp only [List.take_succ_cons, List.take_zero, List.drop_succ_cons, List.drop_zero]
  change wpStill _ _ w.drew _ _ _
  rw [hwd]
  repeat still_step
  refine wpStill_nil ?_
  clear hwd
  go_wp2_with fail
  refine HC.out.mono ?_
  rintro e w2 ⟨rfl, b2⟩
  have B2 : Hid (Below w.heap.size w w2) := B0.out.trans b2
  clear b2
  go_wp2
  go_ret
  exact ⟨rfl, B2.out⟩

/-- Whether a list of texts is in order. -/
def inOrder (S : Nat → Nat) (m : Nat) : Prop := ∀ i, 0 < i → i < m → Op.bytesLess (textOf (S i)) (textOf (S (i - 1))) = false
noncomputable def inOrderB (S : Nat → Nat) (m : Nat) : Bool := @decide (inOrder S m) (Classical.propDecidable _)
theorem inOrder_true {S : Nat → Nat} {m : Nat} (h : inOrder S m) : inOrderB S m = true := @decide_eq_true _ (Classical.propDecidable _) h
theorem inOrder_false {S : Nat → Nat} {m i : Nat} (h0 : 0 < i) (hi : i < m) (h : Op.bytesLess (textOf (S i)) (textOf (S (i - 1))) = true) : inOrderB S m = false :=
  @decide_eq_false _ (Classical.propDecidable _) (fun k => by rw [k i h0 hi] at h; cases h)

set_option maxRecDepth 100000 in
set_option maxHeartbeats 2000000 in
theorem isorted (b g m : Nat) (S : Nat → Nat) (hm : m ≤ 128) (w : World) (hb : w.cell? ⟨b, 0, none⟩ = some (.slice (some ⟨g, 0, none⟩) m m)) (hU : Ub w g m S) (hS : ∀ i, i < m → S i < 4294967296) (ht : Tab w) :
    Calls Tryd.prog 53 #[.iface 42 (.slice (some ⟨g, 0, none⟩) m m), .func (.func 65) #[] #[.pointer (some ⟨b, 0, none⟩)]] w fun e w' => e = .returned (.bool (inOrderB S m)) ∧ Below w.heap.size w w' := by
  obtain ⟨i0, hi0⟩ : ∃ i0, Tryd.prog.info? 42 = some i0 := Option.isSome_iff_exists.1 (by kernel_rfl)
  have hd : i0.desc = .slice 87 := by
    have e : (Tryd.prog.info? 42).map (·.desc) = some (.slice 87) := by kernel_rfl
    rw [hi0] at e; simpa using e
  have hv := Lib.run_valueOf_slice (P := Tryd.prog) 42 87 i0 hi0 hd (some ⟨g, 0, none⟩) m m w
  have hl := fun a W ha => Lib.run_valueLen_slice (P := Tryd.prog) 42 87 i0 hi0 hd (by kernel_rfl) a (some ⟨g, 0, none⟩) m m W ha
  simp only [typeHandle] at hv hl
  have gs : Tryd.prog.globals.size = 1 := by kernel_rfl
  simp only [gs] at hv hl
  clear gs
  obtain ⟨B, hB⟩ : ∃ B, w.heap.size = B := ⟨_, rfl⟩
  have HL := Lib.hid (fun W (hw : Below B w W) i j hi hj => iless b g m m S hm i j hi hj W
    (by rw [hw.cell (p := ⟨b, 0, none⟩) (by rw [← hB]; exact World.block_lt_of_cell? w _ hb)]; exact hb) (hU.below hw (by rw [← hB]; exact hU.lt)).uc hS (ht.below hw (by rw [← hB]; exact ht.pos)))
  have hcf : ∀ args W, (callFunc 65 args).run Tryd.prog W = .ok (.enter 65 args) W := enters_of Tryd.func65 (by kernel_rfl) rfl
  have YES := Lib.hid (fun h => inOrder_true (S := S) (m := m) h)
  have NO := Lib.hid (fun i h0 hi h => inOrder_false (S := S) (m := m) (i := i) h0 hi h)
  obtain ⟨V, hV⟩ : ∃ V, inOrderB S m = V := ⟨_, rfl⟩
  rw [hV] at YES NO ⊢
  have HB := Lib.hid hB
  clear hb hU hS ht hV hi0 hd
  go_enter Tryd.func53, Tryd.ntmps53
  go_wp2
  rw [run_callFunc_extern Tryd.func63 (by kernel_rfl) (by kernel_rfl) (by kernel_rfl) (e := fun args => Extern.ReflectliteValue.unpack (args.getD 0 (.tuple #[]))) (by kernel_rfl),
    show Sem.run Tryd.prog ((fun args : Array Value => Extern.ReflectliteValue.unpack (args.getD 0 (.tuple #[]))) #[.iface 42 (.slice (some ⟨g, 0, none⟩) m m)]) w = _ from hv]
  simp only [Result.andThen]
  rw [Oper.upon_value]
  go_wp2
  rw [run_callFunc_extern Tryd.func64 (by kernel_rfl) (by kernel_rfl) (by kernel_rfl) (e := Extern.ReflectliteValue.method (Extern.ReflectliteValue.valueError "reflectlite.Value.Len" 0) Extern.ReflectliteValue.len) (by kernel_rfl),
    hl ⟨B, 0, none⟩ ((w.alloc (.cells #[.slice (some ⟨g, 0, none⟩) m m] 42)).alloc (.cells #[.pointer (some ⟨1, 42, none⟩), .pointer (some ⟨B, 0, none⟩), .int .u64 151] 94)) (by rw [← hB]; simp)]
  simp only [Result.andThen]
  rw [Oper.upon_value]
  have wm := IntWalk.i64_in ((m : Int) - 1) (by omega)
  clear hv hl
  go_wp2
  obtain ⟨wo, hwo⟩ : ∃ wo, (w.alloc (.cells #[.slice (some ⟨g, 0, none⟩) m m] 42)).alloc (.cells #[.pointer (some ⟨1, 42, none⟩), .pointer (some ⟨B, 0, none⟩), .int .u64 151] 94) = wo := ⟨_, rfl⟩
  have B0 : Hid (Below B w wo) := by
    have b1 : Below B w (w.alloc (.cells #[.slice (some ⟨g, 0, none⟩) m m] 42)) := (Below.refl _ _).alloc (by omega) _
    unfold Hid; rw [← hwo]
    exact b1.alloc (by rw [World.size_alloc]; omega) _
  try rw [hwo]
  clear hwo hB
  go_loopw [7] (fun i wr => ∃ z : Int, -1 ≤ z ∧ z < m ∧ i = .int .i64 z ∧ Hid (∀ j : Nat, z < (j : Int) → 0 < j → j < m → Op.bytesLess (textOf (S j)) (textOf (S (j - 1))) = false) ∧ Hid (Below B w wr)) (fun i _ => (intOf i).toNat)
  case atStart => exact ⟨(m : Int) - 1, by omega, by omega, rfl, fun j h1 h2 h3 => by omega, B0⟩
  case round =>
    obtain ⟨z, hz1, hz2, rfl, hP, hBl⟩ := hrel
    by_cases c : 0 < z
    · obtain ⟨k, rfl⟩ : ∃ k : Nat, z = k := ⟨z.toNat, by omega⟩
      have t1 : decide ((k : Int) > 0) = true := decide_eq_true c
      have t2 : decide ((0 : Int) < (k : Int)) = true := decide_eq_true c
      have t3 : decide (0 < k) = true := decide_eq_true (by omega)
      have wk := IntWalk.i64_in ((k : Int) - 1) (by omega)
      have HC := Lib.hid (HL.out wr hBl.out k (k - 1) (by omega) (by omega))
      rw [show (((k - 1 : Nat)) : Int) = (k : Int) - 1 by omega] at HC
      have sB : B ≤ wr.heap.size := by have := hBl.out.size; have := HB.out; omega
      cases hq : Op.bytesLess (textOf (S k)) (textOf (S (k - 1))) with
      | true =>
        have V2 := Lib.hid (NO.out k (by omega) (by omega) hq)
        rw [hq] at HC
        clear hq
        go_wp2_with fail
        refine HC.out.mono ?_
        rintro e w5 ⟨rfl, b5⟩
        have B5 : Hid (Below B w w5) := hBl.out.trans (b5.mono sB)
        clear b5
        go_wp2
        go_ret
        exact ⟨by rw [V2.out]; rfl, by rw [HB.out]; exact B5.out⟩
      | false =>
        have P2 : Hid (∀ j : Nat, (k : Int) - 1 < (j : Int) → 0 < j → j < m → Op.bytesLess (textOf (S j)) (textOf (S (j - 1))) = false) := fun j h1 h2 h3 => by
          by_cases e : j = k
          · rw [e]; exact hq
          · exact hP.out j (by omega) h2 h3
        rw [hq] at HC
        clear hq
        go_wp2_with fail
        refine HC.out.mono ?_
        rintro e w5 ⟨rfl, b5⟩
        have B5 : Hid (Below B w w5) := hBl.out.trans (b5.mono sB)
        clear b5
        go_wp2
        go_roundw
        case rel => exact ⟨(k : Int) - 1, by omega, by omega, rfl, P2, B5⟩
        case measure => simp [intOf]; omega
    · have t1 : decide (z > 0) = false := decide_eq_false c
      have t2 : decide ((0 : Int) < z) = false := decide_eq_false c
      have V2 := Lib.hid (YES.out (fun j h1 h2 => hP.out j (by omega) h1 h2))
      go_wp2
      go_ret
      exact ⟨by rw [V2.out]; rfl, by rw [HB.out]; exact hBl.out⟩
end Go.Proofs.YtanfodbpgpfjmabDoor
