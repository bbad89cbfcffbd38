/- What every law on a field calls: its size, its copy, equality; the field of an argument. -/
import Derived.Test.YtmlcdbjibngnkaaOk
import Derived.Deep.Strs
import Derived.ChangeSlices
import Derived.ChangeArms
namespace Go.Proofs.Ytmlcdbjibngnkaa
open Go.RowKit
set_option linter.unusedVariables false

theorem Try.openField {H : Type} {enc : TypeId × Value → H} {W : World} {cs : Array Value} {d : DataW H} {ps : List MemPlace} (hs : cs.size = Try.prog.cellsOf 37)
    (h : DataW.Trod enc Try.prog W 0 (fun _ => true) true 37 (.agg cs) d ps) : ∃ P K a len cap zs, cs = #[.int .i64 P, .int .i64 K, .slice a len cap] ∧ IsRow .i64 W a len cap zs := by
  have e3 : Try.prog.cellsOf 37 = 3 := by kernel_rfl
  have e1 : Try.prog.cellsOf 2 = 1 := by kernel_rfl
  have es : Try.prog.cellsOf 23 = 1 := by kernel_rfl
  obtain ⟨fuel, hf⟩ := h
  obtain ⟨y0, y1, y2, n, -, -, t0, t1, t2⟩ := Go.Deep.trod_struct3 Try.underlying37 hf
  rw [e3] at hs
  obtain ⟨x0, x1, x2, rfl⟩ : ∃ x0 x1 x2, cs = #[x0, x1, x2] := by
    match cs, hs with
    | ⟨[x0, x1, x2]⟩, _ => exact ⟨x0, x1, x2, rfl⟩
  simp only [Value.cells, e1, es] at t0 t1 t2
  obtain ⟨P, q0, -, -⟩ := DataW.trod_int Try.underlying2 t0
  obtain ⟨K, q1, -, -⟩ := DataW.trod_int Try.underlying2 t1
  simp at q0 q1
  subst q0 q1
  rcases Go.ChangeShapes.open_ints Try.underlying23 Try.underlying2 e1 t2 with ⟨q2, _⟩ | ⟨x, l, c, zs, q2, _, hl, hm, hz, _, hcell, hwz⟩
  · simp at q2
    subst q2
    exact ⟨P, K, none, 0, 0, [], rfl, .inl ⟨rfl, rfl, rfl, rfl⟩⟩
  · simp at q2
    subst q2
    exact ⟨P, K, some x, l, c, zs, rfl, .inr ⟨_, rfl, hl, hm, by simpa using hz, hcell, hwz⟩⟩

theorem Ints.isSlice {w : World} {B : Nat} {v : Value} {xs : List Int} (h : Ints w B v xs) : ∃ a n cap, v = .slice a n cap := by
  obtain ⟨h1, ⟨rfl, h2⟩ | ⟨g, cap, cur, rfl, -⟩⟩ := h <;> exact ⟨_, _, _, rfl⟩
theorem Fd.set {w : World} {g : Nat} {P K : Int} {v : Value} (h : Fd w g P K v) (u : Value) : Fd (w.setCell ⟨g, 2, none⟩ u) g P K u := heap_setCell_same w g 2 _ _ u h
theorem fd_one (P K : Int) (a : Option Addr) (n cap : Nat) : (#[Value.int .i64 P, Value.int .i64 K, Value.slice a n cap]).all (·.oneCell') = true := by
  rw [Array.all_eq_true_iff_forall_mem]
  intro v hv
  simp at hv
  rcases hv with rfl | rfl | rfl <;> rfl
theorem Try.infoField : (Try.prog.info? 25).map (·.size) = some 3 := by kernel_rfl
theorem Ints.setOther {w : World} {B g : Nat} {v : Value} {xs : List Int} (h : Ints w B v xs) (hg : g < B) (i : Nat) (u : Value) : Ints (w.setCell ⟨g, i, none⟩ u) B v xs := by
  have hb : ∀ k, B ≤ k → (w.setCell ⟨g, i, none⟩ u).heap[k]? = w.heap[k]? := fun k hk => heap_setCell_other w ⟨g, i, none⟩ k u (by show k ≠ g; omega)
  obtain ⟨h1, h2 | ⟨k, cap, cur, rfl, h3, h4, h5⟩⟩ := h
  · exact ⟨h1, .inl h2⟩
  · exact ⟨h1, .inr ⟨k, cap, cur, rfl, h3, (hb k h3).trans h4, h5⟩⟩
theorem Ints.setRowOther {w : World} {B g : Nat} {v : Value} {xs : List Int} (h : Ints w B v xs) (hg : g < B) (cs : Array Value) : Ints (w.setRow g cs) B v xs := by
  have hb : ∀ k, B ≤ k → (w.setRow g cs).heap[k]? = w.heap[k]? := fun k hk => setRow_other w g k cs (by omega)
  obtain ⟨h1, h2 | ⟨k, cap, cur, rfl, h3, h4, h5⟩⟩ := h
  · exact ⟨h1, .inl h2⟩
  · exact ⟨h1, .inr ⟨k, cap, cur, rfl, h3, (hb k h3).trans h4, h5⟩⟩

/-- The bulk that is left. -/
theorem szField_any (P K : Int) (a : Option Addr) (n cap : Nat) (w : World) (hn : n ≤ 9223372036854775807) :
    Calls Try.prog 33 #[.agg #[.int .i64 P, .int .i64 K, .slice a n cap], .int .i64 1048576] w fun e w' => e = .returned (.int .i64 (if n ≤ 1048576 then 1048576 - (n : Int) else -1)) ∧ Below w.heap.size w w' := by
  have HS : Hid (∀ W : World, Calls Try.prog 71 #[.slice a n cap, .int .i64 1048576] W fun e w' => e = .returned (.int .i64 (if n ≤ 1048576 then 1048576 - (n : Int) else -1)) ∧ W = w') := by
    intro W
    by_cases h : n ≤ 1048576
    · rw [if_pos h]
      have g1 : ¬ (1048576 : Int) - (n : Int) < 0 := by omega
      go_enter Try.func71, Try.ntmps71
      go_wp2
      go_ret
      exact ⟨rfl, rfl⟩
    · rw [if_neg h]
      have g1 : (1048576 : Int) - (n : Int) < 0 := by omega
      go_enter Try.func71, Try.ntmps71
      go_wp2
      go_ret
      exact ⟨rfl, rfl⟩
  obtain ⟨m, hm⟩ : ∃ m : Int, (if n ≤ 1048576 then 1048576 - (n : Int) else -1) = m := ⟨_, rfl⟩
  have m0 : m = -1 ∨ 0 ≤ m := by rw [← hm]; split <;> omega
  rw [hm] at HS ⊢
  clear hm
  have B0 : Hid (Below w.heap.size w (w.alloc (.cells #[.int .i64 P, .int .i64 K, .slice a n cap] 37))) := (Below.refl _ _).alloc (Nat.le_refl _) _
  rcases m0 with rfl | h0
  · go_enter Try.func33, Try.ntmps33
    go_wp2_with (go_at_call 71; refine (HS.out _).mono ?_; rintro e w' ⟨rfl, rfl⟩)
    go_ret
    exact ⟨rfl, B0.out⟩
  · have g1 : ¬ m < 0 := by omega
    go_enter Try.func33, Try.ntmps33
    go_wp2_with (go_at_call 71; refine (HS.out _).mono ?_; rintro e w' ⟨rfl, rfl⟩)
    go_ret
    exact ⟨rfl, B0.out⟩

/-- A copy of a field. -/
theorem toField_any (P K : Int) (xs : List Int) (v : Value) (w : World) (hv : IntsAt w v xs) (hx : xs.length ≤ 1048576) :
    Calls Try.prog 35 #[.agg #[.int .i64 P, .int .i64 K, v]] w fun e w' => ∃ v', e = .returned (.agg #[.int .i64 P, .int .i64 K, v']) ∧ Ints w' w.heap.size v' xs ∧ Below w.heap.size w w' := by
  have HC := Lib.hid (fun (W : World) (h : Below w.heap.size w W) => copy_any W v xs (hv.below h (Nat.le_refl _)) hx)
  obtain ⟨a, n, cap, rfl⟩ : ∃ a n cap, v = .slice a n cap := by
    rcases hv.2 with ⟨rfl, a, cap, rfl⟩ | ⟨g, off, cap, rfl, _⟩ <;> exact ⟨_, _, _, rfl⟩
  clear hv
  have F3 := Fd.new ((w.alloc (.cells #[.int .i64 P, .int .i64 K, .slice a n cap] 37)).alloc (.cells #[.int .i64 0, .int .i64 0, .slice none 0 0] 25)) P K (.slice none 0 0)
  have F2 : Fd _ _ 0 0 (.slice none 0 0) := (Fd.new (w.alloc (.cells #[.int .i64 P, .int .i64 K, .slice a n cap] 37)) 0 0 (.slice none 0 0)).alloc (.cells #[.int .i64 P, .int .i64 K, .slice none 0 0] 25)
  have B3 : Below w.heap.size w (((w.alloc (.cells #[.int .i64 P, .int .i64 K, .slice a n cap] 37)).alloc (.cells #[.int .i64 0, .int .i64 0, .slice none 0 0] 25)).alloc (.cells #[.int .i64 P, .int .i64 K, .slice none 0 0] 25)) := (((Below.refl _ _).alloc (Nat.le_refl _) _).alloc (by simp only [World.size_alloc]; omega) _).alloc (by simp only [World.size_alloc]; omega) _
  simp only [World.size_alloc] at F3 F2
  have C3 : (((w.alloc (.cells #[.int .i64 P, .int .i64 K, .slice a n cap] 37)).alloc (.cells #[.int .i64 0, .int .i64 0, .slice none 0 0] 25)).alloc (.cells #[.int .i64 P, .int .i64 K, .slice none 0 0] 25)).cell? ⟨w.heap.size, 2, none⟩ = some (.slice a n cap) := by
    have h0 := heap_alloc_new w (.cells #[.int .i64 P, .int .i64 K, .slice a n cap] 37)
    have l0 : w.heap.size < (w.alloc (.cells #[.int .i64 P, .int .i64 K, .slice a n cap] 37)).heap.size := by simp only [World.size_alloc]; omega
    have h1 := (heap_alloc_old (w.alloc (.cells #[.int .i64 P, .int .i64 K, .slice a n cap] 37)) (.cells #[.int .i64 0, .int .i64 0, .slice none 0 0] 25) l0).trans h0
    have l1 : w.heap.size < ((w.alloc (.cells #[.int .i64 P, .int .i64 K, .slice a n cap] 37)).alloc (.cells #[.int .i64 0, .int .i64 0, .slice none 0 0] 25)).heap.size := by simp only [World.size_alloc]; omega
    have h2 := (heap_alloc_old _ (.cells #[.int .i64 P, .int .i64 K, .slice none 0 0] 25) l1).trans h1
    rw [cell_of_row _ _ 2 _ _ _ h2]
    rfl
  have S3 : (((w.alloc (.cells #[.int .i64 P, .int .i64 K, .slice a n cap] 37)).alloc (.cells #[.int .i64 0, .int .i64 0, .slice none 0 0] 25)).alloc (.cells #[.int .i64 P, .int .i64 K, .slice none 0 0] 25)).heap.size = w.heap.size + 3 := by simp only [World.size_alloc]
  have H3 := Lib.hid (And.intro F3 (And.intro F2 (And.intro B3 (And.intro C3 S3))))
  clear F3 F2 B3 C3 S3
  go_enter Try.func35, Try.ntmps35
  go_upto_region 4 with fail
  obtain ⟨W, hW⟩ : ∃ W, (((w.alloc (.cells #[.int .i64 P, .int .i64 K, .slice a n cap] 37)).alloc (.cells #[.int .i64 0, .int .i64 0, .slice none 0 0] 25)).alloc (.cells #[.int .i64 P, .int .i64 K, .slice none 0 0] 25)) = W := ⟨_, rfl⟩
  rw [hW] at H3 ⊢
  clear hW
  obtain ⟨F3, F2, B3, c0, S3⟩ := H3
  have HF3 := Lib.hid F3
  have HF2 := Lib.hid F2
  have HB3 := Lib.hid B3
  clear F3 F2 B3
  go_upto_region 5 with (go_at_call 72; refine (HC.out _ HB3.out).mono ?_; rintro e w4 ⟨v', rfl, i4, b4⟩; have I4 := Lib.hid i4; have B4 := Lib.hid b4; obtain ⟨-, -, ce⟩ := (HF3.out.below b4 (by omega)).cells; have hfz : w4.frozen? ⟨w.heap.size + 1 + 1, 2, none⟩ = false := frozen_of_row _ _ _ _ _ (HF3.out.below b4 (by omega)); obtain ⟨a', n', cap', rfl⟩ := i4.isSlice; clear i4 b4)
  have K3 : Hid (Fd (w4.setCell ⟨w.heap.size + 1 + 1, 2, none⟩ (.slice a' n' cap')) (w.heap.size + 2) P K (.slice a' n' cap')) := (HF3.out.below B4.out (by omega)).set _
  have K2 : Hid (Fd (w4.setCell ⟨w.heap.size + 1 + 1, 2, none⟩ (.slice a' n' cap')) (w.heap.size + 1) 0 0 (.slice none 0 0)) := (HF2.out.below B4.out (by omega)).other (by omega) _ _
  refine wp_region_list ?_
  refine wpList_load_row rfl 25 (.tmp 3) rfl _ rfl _ _ _ _ K3.out Try.underlying25 rfl Try.infoField ?_
  refine wpList_store_row rfl 25 (.tmp 2) (.tmp 14) rfl _ #[.int .i64 P, .int .i64 K, .slice a' n' cap'] rfl rfl _ _ K2.out Try.infoField rfl (fd_one _ _ _ _ _) ?_
  go_wp2
  refine bodyPost_ret (v := .agg #[.int .i64 P, .int .i64 K, .slice a' n' cap']) (results_cell_row Try.results35 _ _ _ _ _ _ _ rfl (setRow_heap _ _ _ _ _ _ K2.out) Try.underlying25 rfl Try.infoField) rfl ⟨_, rfl, ?_, ?_⟩
  · have := ((I4.out.setOther (g := w.heap.size + 1 + 1) (by omega) 2 (.slice a' n' cap')).setRowOther (g := w.heap.size + 1) (by omega) #[.int .i64 P, .int .i64 K, .slice a' n' cap'])
    exact this.mono (by omega)
  · exact below_setRow ((HB3.out.trans (B4.out.mono (by omega))).setCell (by show w.heap.size ≤ w.heap.size + 1 + 1; omega) _) (by omega) _

/-- Two fields that read alike are equal. -/
theorem eqField_same (P K : Int) (xs : List Int) (u v : Value) (w : World) (hu : IntsAt w u xs) (hv : IntsAt w v xs) :
    Calls Try.prog 37 #[.agg #[.int .i64 P, .int .i64 K, u], .agg #[.int .i64 P, .int .i64 K, v]] w fun e w' => e = .returned (.bool true) ∧ Below w.heap.size w w' := by
  have HE := Lib.hid (fun (W : World) (h : Below w.heap.size w W) => eq_same W u v xs (hu.below h (Nat.le_refl _)) (hv.below h (Nat.le_refl _)))
  have pT : (P != P) = false := by simp
  have kT : (K != K) = false := by simp
  obtain ⟨a, n, cap, rfl⟩ : ∃ a n cap, u = .slice a n cap := by
    rcases hu.2 with ⟨rfl, a, cap, rfl⟩ | ⟨g, off, cap, rfl, _⟩ <;> exact ⟨_, _, _, rfl⟩
  obtain ⟨b, m, cap', rfl⟩ : ∃ a n cap, v = .slice a n cap := by
    rcases hv.2 with ⟨rfl, a, cap, rfl⟩ | ⟨g, off, cap, rfl, _⟩ <;> exact ⟨_, _, _, rfl⟩
  clear hu hv
  have B2 : Hid (Below w.heap.size w ((w.alloc (.cells #[.int .i64 P, .int .i64 K, .slice a n cap] 25)).alloc (.cells #[.int .i64 P, .int .i64 K, .slice b m cap'] 25))) := ((Below.refl _ _).alloc (Nat.le_refl _) _).alloc (by simp only [World.size_alloc]; omega) _
  go_enter Try.func37, Try.ntmps37
  go_wp2_with (go_at_call 30; refine (HE.out _ B2.out).mono ?_; rintro e w' ⟨rfl, k, rfl⟩)
  go_ret
  exact ⟨rfl, belowN B2.out k⟩

/-- ValidField of both packages. -/
theorem svalid (P K : Int) (xs : List Int) (v : Value) (w : World) (hv : IntsAt w v xs) :
    Calls Try.prog 34 #[.agg #[.int .i64 P, .int .i64 K, v]] w fun e w' => e = .returned (.bool (fok P K xs)) ∧ Below w.heap.size w w' := by
  have B1 : Hid (Below w.heap.size w (w.alloc (.cells #[.int .i64 P, .int .i64 K, v] 25))) := (Below.refl _ _).alloc (Nat.le_refl _) _
  have HS := Lib.hid (sok P K xs v w.heap.size (w.alloc (.cells #[.int .i64 P, .int .i64 K, v] 25)) (Fd.new w P K v) (hv.below B1.out (Nat.le_refl _)))
  obtain ⟨a, n, cap, rfl⟩ : ∃ a n cap, v = .slice a n cap := by
    rcases hv.2 with ⟨rfl, a, cap, rfl⟩ | ⟨g, off, cap, rfl, _⟩ <;> exact ⟨_, _, _, rfl⟩
  clear hv
  go_enter Try.func34, Try.ntmps34
  go_wp2_with (go_at_call 58; refine HS.out.mono ?_; rintro e w' ⟨rfl, b2⟩; have B2 := Lib.hid b2; clear b2)
  go_ret
  exact ⟨rfl, B1.out.trans (B2.out.mono B1.out.size)⟩

theorem ffAns_shape (P K : Int) (xs : List Int) : ∃ c : Array Value, ffAns P K xs = .tuple #[.agg c, .bool (fok P K xs)] ∧ c.size = 15 ∧ c.all (·.oneCell') = true ∧ (fok P K xs = true → c = ffv P K (fsz P K) (cofs xs)) := by
  refine ⟨_, rfl, ?_, ?_, fun h => by rw [if_pos h]⟩
  · split <;> rfl
  · split
    · exact ffv_one _ _ _ _
    · exact zff_one
theorem Try.storesFf (W : World) (c : Array Value) (hs : c.size = 15) (h1 : c.all (·.oneCell') = true) : (storeCells ⟨W.heap.size, 0, none⟩ c.toList 0).run Try.prog (W.alloc (.cells #[.int .i64 0, .int .i64 0, .int .i64 0, .int .i64 0, .int .i64 0, .int .i64 0, .int .i64 0, .int .i64 0, .int .i64 0, .int .i64 0, .int .i64 0, .int .i64 0, .int .i64 0, .int .i64 0, .int .i64 0] 57)) = .ok () (W.alloc (.cells c 57)) :=
  run_storeCells_new W 57 _ c (by rw [hs]; exact Try.infoFf) (by rw [hs]; rfl) h1

theorem ivalid (P K : Int) (xs : List Int) (v : Value) (w : World) (hv : IntsAt w v xs) :
    Calls Try.prog 36 #[.agg #[.int .i64 P, .int .i64 K, v]] w fun e w' => e = .returned (.bool (fok P K xs)) ∧ Below w.heap.size w w' := by
  have B1 : Hid (Below w.heap.size w (w.alloc (.cells #[.int .i64 P, .int .i64 K, v] 25))) := (Below.refl _ _).alloc (Nat.le_refl _) _
  obtain ⟨c, hc, hs, h1, -⟩ := ffAns_shape P K xs
  have HS := Lib.hid (ffOf P K xs v (w.alloc (.cells #[.int .i64 P, .int .i64 K, v] 25)) (hv.below B1.out (Nat.le_refl _)))
  rw [hc] at HS
  have hst := fun W : World => Try.storesFf W c hs h1
  obtain ⟨a, n, cap, rfl⟩ : ∃ a n cap, v = .slice a n cap := by
    rcases hv.2 with ⟨rfl, a, cap, rfl⟩ | ⟨g, off, cap, rfl, _⟩ <;> exact ⟨_, _, _, rfl⟩
  clear hv hc h1
  go_enter Try.func36, Try.ntmps36
  go_wp2_with (go_at_call 59; refine HS.out.mono ?_; rintro e w' ⟨rfl, b2⟩; have B2 := Lib.hid b2; clear b2)
  go_ret
  exact ⟨rfl, (B1.out.trans (B2.out.mono B1.out.size)).alloc (by have := B2.out.size; have := B1.out.size; omega) _⟩
end Go.Proofs.Ytmlcdbjibngnkaa
