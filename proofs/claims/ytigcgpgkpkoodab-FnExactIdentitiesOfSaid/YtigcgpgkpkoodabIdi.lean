/- Identities of quasigroups: the program's closures and rules. -/
import Derived.Test.YtigcgpgkpkoodabQgi
import Derived.Test.YtigcgpgkpkoodabIdm
namespace Go.Proofs.Ytigcgpgkpkoodab
open Go.RowKit Go.Shelf
set_option linter.unusedVariables false

set_option maxRecDepth 100000 in
set_option maxHeartbeats 4000000 in
theorem iI1 (W : World) (b n : Nat) (hn : n ≤ 10) (F : Nat → Nat → Int) (hS : SqAt W b n F) (x y : Nat) (hx : x < n) (hy : y < n) :
    Calls Try.prog 75 #[.int .i64 x, .int .i64 y, .pointer (some ⟨b, 0, none⟩)] W fun e W' => e = .returned (.bool (isI F x y)) ∧ Below W.heap.size W W' := by
  have x0 : (0 : Int) ≤ (x : Int) := by omega
  have x1 : (x : Int) < 10 := by omega
  have m1 := Ia.cell hS (1 + x * 10 + x) (by omega)
  rw [sqC_at _ _ (by omega)] at m1
  have V : Hid (isI F x y = (F x x == ((x : Nat) : Int))) := rfl
  obtain ⟨u, hu⟩ : ∃ u, F x x = u := ⟨_, rfl⟩
  rw [hu] at m1 V
  clear hS hu
  go_enter Try.func75, Try.ntmps75
  go_wp2
  go_ret
  exact ⟨by rw [V.out]; rfl, Below.refl _ _⟩

set_option maxRecDepth 100000 in
set_option maxHeartbeats 4000000 in
theorem iU1 (W : World) (b n : Nat) (hn : n ≤ 10) (F : Nat → Nat → Int) (hS : SqAt W b n F) (x y : Nat) (hx : x < n) (hy : y < n) :
    Calls Try.prog 76 #[.int .i64 x, .int .i64 y, .pointer (some ⟨b, 0, none⟩)] W fun e W' => e = .returned (.bool (isU F x y)) ∧ Below W.heap.size W W' := by
  have x0 : (0 : Int) ≤ (x : Int) := by omega
  have x1 : (x : Int) < 10 := by omega
  have y0 : (0 : Int) ≤ (y : Int) := by omega
  have y1 : (y : Int) < 10 := by omega
  obtain ⟨wd, hwd⟩ : ∃ wd, W.drew = wd := ⟨_, rfl⟩
  have D1 : SqAt wd b n F := by rw [← hwd]; exact hS
  have DB : Hid (Below W.heap.size W W.drew) := (Below.refl _ _).drew
  have m1 := Ia.cell D1 (1 + x * 10 + x) (by omega)
  rw [sqC_at _ _ (by omega)] at m1
  have m2 := Ia.cell D1 (1 + y * 10 + y) (by omega)
  rw [sqC_at _ _ (by omega)] at m2
  have V : Hid (isU F x y = (F x x == F y y)) := rfl
  obtain ⟨u, hu⟩ : ∃ u, F x x = u := ⟨_, rfl⟩
  obtain ⟨v, hv⟩ : ∃ v, F y y = v := ⟨_, rfl⟩
  rw [hu] at m1 V
  rw [hv] at m2 V
  clear hS hu hv D1
  go_enter Try.func76, Try.ntmps76
  go_wp2
  refine wp_region_still_lit (by kernel_rfl) (by kernel_rfl) ?_
  change wpStill _ _ W.drew _ _ _
  rw [hwd]
  repeat still_step
  refine wpStill_nil ?_
  clear hwd
  go_wp2
  go_ret
  exact ⟨by rw [V.out]; rfl, DB.out⟩

set_option maxRecDepth 100000 in
set_option maxHeartbeats 4000000 in
theorem iC1 (W : World) (b n : Nat) (hn : n ≤ 10) (F : Nat → Nat → Int) (hS : SqAt W b n F) (x y : Nat) (hx : x < n) (hy : y < n) :
    Calls Try.prog 77 #[.int .i64 x, .int .i64 y, .pointer (some ⟨b, 0, none⟩)] W fun e W' => e = .returned (.bool (isC F x y)) ∧ Below W.heap.size W W' := by
  have x0 : (0 : Int) ≤ (x : Int) := by omega
  have x1 : (x : Int) < 10 := by omega
  have y0 : (0 : Int) ≤ (y : Int) := by omega
  have y1 : (y : Int) < 10 := by omega
  obtain ⟨wd, hwd⟩ : ∃ wd, W.drew = wd := ⟨_, rfl⟩
  have D1 : SqAt wd b n F := by rw [← hwd]; exact hS
  have DB : Hid (Below W.heap.size W W.drew) := (Below.refl _ _).drew
  have m1 := Ia.cell D1 (1 + x * 10 + y) (by omega)
  rw [sqC_at _ _ (by omega)] at m1
  have m2 := Ia.cell D1 (1 + y * 10 + x) (by omega)
  rw [sqC_at _ _ (by omega)] at m2
  have V : Hid (isC F x y = (F x y == F y x)) := rfl
  obtain ⟨u, hu⟩ : ∃ u, F x y = u := ⟨_, rfl⟩
  obtain ⟨v, hv⟩ : ∃ v, F y x = v := ⟨_, rfl⟩
  rw [hu] at m1 V
  rw [hv] at m2 V
  clear hS hu hv D1
  go_enter Try.func77, Try.ntmps77
  go_wp2
  refine wp_region_still_lit (by kernel_rfl) (by kernel_rfl) ?_
  change wpStill _ _ W.drew _ _ _
  rw [hwd]
  repeat still_step
  refine wpStill_nil ?_
  clear hwd
  go_wp2
  go_ret
  exact ⟨by rw [V.out]; rfl, DB.out⟩

set_option maxRecDepth 100000 in
set_option maxHeartbeats 4000000 in
theorem iS1 (W : World) (b n : Nat) (hn : n ≤ 10) (F : Nat → Nat → Int) (hS : SqAt W b n F) (IQ : InSq n F) (x y : Nat) (hx : x < n) (hy : y < n) :
    Calls Try.prog 80 #[.int .i64 x, .int .i64 y, .pointer (some ⟨b, 0, none⟩)] W fun e W' => e = .returned (.bool (isS F x y)) ∧ Below W.heap.size W W' := by
  have x0 : (0 : Int) ≤ (x : Int) := by omega
  have x1 : (x : Int) < 10 := by omega
  have y0 : (0 : Int) ≤ (y : Int) := by omega
  have y1 : (y : Int) < 10 := by omega
  obtain ⟨wd, hwd⟩ : ∃ wd, W.drew = wd := ⟨_, rfl⟩
  have D1 : SqAt wd b n F := by rw [← hwd]; exact hS
  have DB : Hid (Below W.heap.size W W.drew) := (Below.refl _ _).drew
  have m1 := Ia.cell D1 (1 + y * 10 + x) (by omega)
  rw [sqC_at _ _ (by omega)] at m1
  have V : Hid (isS F x y = (F x (F y x).toNat == ((y : Nat) : Int))) := rfl
  have i1 := IQ y x hy hx
  obtain ⟨p, hp⟩ : ∃ p : Nat, F y x = p := ⟨(F y x).toNat, by omega⟩
  rw [hp] at m1 V i1
  rw [Int.toNat_natCast] at V
  have m2 := Ia.cell D1 (1 + x * 10 + p) (by omega)
  rw [sqC_at _ _ (by omega)] at m2
  obtain ⟨v, hv⟩ : ∃ v, F x p = v := ⟨_, rfl⟩
  rw [hv] at m2 V
  have p0 : (0 : Int) ≤ (p : Int) := by omega
  have p1 : (p : Int) < 10 := by omega
  clear hS hp hv D1 i1 IQ
  go_enter Try.func80, Try.ntmps80
  go_wp2
  refine wp_region_still_lit (by kernel_rfl) (by kernel_rfl) ?_
  change wpStill _ _ W.drew _ _ _
  rw [hwd]
  repeat still_step
  refine wpStill_nil ?_
  clear hwd
  go_wp2
  go_ret
  exact ⟨by rw [V.out]; rfl, DB.out⟩


set_option maxRecDepth 100000 in
set_option maxHeartbeats 4000000 in
theorem iIdem (n : Nat) (hn : n ≤ 10) (w : World) (F : Nat → Nat → Int) (IQ : InSq n F) :
    Calls Try.prog 51 #[.agg (iar 101 (sqC n F))] w fun e w' => e = .returned (.bool (allP n (isI F))) ∧ Below w.heap.size w w' := by
  have hmf : ∀ (fn : Fn) (first cap : Array Value) (w : World), (Instr.makeFunc fn first cap).run Try.prog w = .ok (.func fn first cap) w := fun _ _ _ _ => rfl
  obtain ⟨b, hb⟩ : ∃ b, w.heap.size = b := ⟨_, rfl⟩
  have b1 : Below b w (w.alloc (.cells (iar 101 (sqC n F)) 42)) := (Below.refl _ _).alloc (by omega) _
  have A1 : SqAt (w.alloc (.cells (iar 101 (sqC n F)) 42)) b n F := by unfold SqAt Ia; rw [← hb]; exact heap_alloc_new _ _
  obtain ⟨w1, hw1⟩ : ∃ w1, w.alloc (.cells (iar 101 (sqC n F)) 42) = w1 := ⟨_, rfl⟩
  rw [hw1] at b1 A1
  have HF := Lib.hid (iforPairs n hn w1 F (.func (.func 75) #[] #[.pointer (some ⟨b, 0, none⟩)]) (isI F)
    ⟨_, _, _, rfl, enters_of Try.func75 (by kernel_rfl) rfl, fun W x y hW hx hy => iI1 W b n hn F (SqAt.below A1 hW (Ia.lt A1)) x y hx hy⟩)
  have X1 := Lib.hid A1
  have HB := Lib.hid b1
  have s1 := b1.size
  rw [hb]
  clear A1 b1
  go_enter Try.func51, Try.ntmps51
  go_wp2_with (refine wpList_load_row rfl 42 (.tmp 1) rfl _ rfl _ _ _ _ X1.out Try.underlying42 rfl (by rw [iar_size]; exact Try.infoSq) ?_)
  refine HF.out.mono ?_
  rintro e w2 ⟨rfl, b2⟩
  have B2 : Hid (Below b w w2) := HB.out.trans (b2.mono (by omega))
  clear b2
  go_wp2
  go_ret
  exact ⟨rfl, B2.out⟩

set_option maxRecDepth 100000 in
set_option maxHeartbeats 4000000 in
theorem iUnip (n : Nat) (hn : n ≤ 10) (w : World) (F : Nat → Nat → Int) (IQ : InSq n F) :
    Calls Try.prog 52 #[.agg (iar 101 (sqC n F))] w fun e w' => e = .returned (.bool (allP n (isU F))) ∧ Below w.heap.size w w' := by
  have hmf : ∀ (fn : Fn) (first cap : Array Value) (w : World), (Instr.makeFunc fn first cap).run Try.prog w = .ok (.func fn first cap) w := fun _ _ _ _ => rfl
  obtain ⟨b, hb⟩ : ∃ b, w.heap.size = b := ⟨_, rfl⟩
  have b1 : Below b w (w.alloc (.cells (iar 101 (sqC n F)) 42)) := (Below.refl _ _).alloc (by omega) _
  have A1 : SqAt (w.alloc (.cells (iar 101 (sqC n F)) 42)) b n F := by unfold SqAt Ia; rw [← hb]; exact heap_alloc_new _ _
  obtain ⟨w1, hw1⟩ : ∃ w1, w.alloc (.cells (iar 101 (sqC n F)) 42) = w1 := ⟨_, rfl⟩
  rw [hw1] at b1 A1
  have HF := Lib.hid (iforPairs n hn w1 F (.func (.func 76) #[] #[.pointer (some ⟨b, 0, none⟩)]) (isU F)
    ⟨_, _, _, rfl, enters_of Try.func76 (by kernel_rfl) rfl, fun W x y hW hx hy => iU1 W b n hn F (SqAt.below A1 hW (Ia.lt A1)) x y hx hy⟩)
  have X1 := Lib.hid A1
  have HB := Lib.hid b1
  have s1 := b1.size
  rw [hb]
  clear A1 b1
  go_enter Try.func52, Try.ntmps52
  go_wp2_with (refine wpList_load_row rfl 42 (.tmp 1) rfl _ rfl _ _ _ _ X1.out Try.underlying42 rfl (by rw [iar_size]; exact Try.infoSq) ?_)
  refine HF.out.mono ?_
  rintro e w2 ⟨rfl, b2⟩
  have B2 : Hid (Below b w w2) := HB.out.trans (b2.mono (by omega))
  clear b2
  go_wp2
  go_ret
  exact ⟨rfl, B2.out⟩

set_option maxRecDepth 100000 in
set_option maxHeartbeats 4000000 in
theorem iComm (n : Nat) (hn : n ≤ 10) (w : World) (F : Nat → Nat → Int) (IQ : InSq n F) :
    Calls Try.prog 53 #[.agg (iar 101 (sqC n F))] w fun e w' => e = .returned (.bool (allP n (isC F))) ∧ Below w.heap.size w w' := by
  have hmf : ∀ (fn : Fn) (first cap : Array Value) (w : World), (Instr.makeFunc fn first cap).run Try.prog w = .ok (.func fn first cap) w := fun _ _ _ _ => rfl
  obtain ⟨b, hb⟩ : ∃ b, w.heap.size = b := ⟨_, rfl⟩
  have b1 : Below b w (w.alloc (.cells (iar 101 (sqC n F)) 42)) := (Below.refl _ _).alloc (by omega) _
  have A1 : SqAt (w.alloc (.cells (iar 101 (sqC n F)) 42)) b n F := by unfold SqAt Ia; rw [← hb]; exact heap_alloc_new _ _
  obtain ⟨w1, hw1⟩ : ∃ w1, w.alloc (.cells (iar 101 (sqC n F)) 42) = w1 := ⟨_, rfl⟩
  rw [hw1] at b1 A1
  have HF := Lib.hid (iforPairs n hn w1 F (.func (.func 77) #[] #[.pointer (some ⟨b, 0, none⟩)]) (isC F)
    ⟨_, _, _, rfl, enters_of Try.func77 (by kernel_rfl) rfl, fun W x y hW hx hy => iC1 W b n hn F (SqAt.below A1 hW (Ia.lt A1)) x y hx hy⟩)
  have X1 := Lib.hid A1
  have HB := Lib.hid b1
  have s1 := b1.size
  rw [hb]
  clear A1 b1
  go_enter Try.func53, Try.ntmps53
  go_wp2_with (refine wpList_load_row rfl 42 (.tmp 1) rfl _ rfl _ _ _ _ X1.out Try.underlying42 rfl (by rw [iar_size]; exact Try.infoSq) ?_)
  refine HF.out.mono ?_
  rintro e w2 ⟨rfl, b2⟩
  have B2 : Hid (Below b w w2) := HB.out.trans (b2.mono (by omega))
  clear b2
  go_wp2
  go_ret
  exact ⟨rfl, B2.out⟩

set_option maxRecDepth 100000 in
set_option maxHeartbeats 4000000 in
theorem iSemi (n : Nat) (hn : n ≤ 10) (w : World) (F : Nat → Nat → Int) (IQ : InSq n F) :
    Calls Try.prog 57 #[.agg (iar 101 (sqC n F))] w fun e w' => e = .returned (.bool (allP n (isS F))) ∧ Below w.heap.size w w' := by
  have hmf : ∀ (fn : Fn) (first cap : Array Value) (w : World), (Instr.makeFunc fn first cap).run Try.prog w = .ok (.func fn first cap) w := fun _ _ _ _ => rfl
  obtain ⟨b, hb⟩ : ∃ b, w.heap.size = b := ⟨_, rfl⟩
  have b1 : Below b w (w.alloc (.cells (iar 101 (sqC n F)) 42)) := (Below.refl _ _).alloc (by omega) _
  have A1 : SqAt (w.alloc (.cells (iar 101 (sqC n F)) 42)) b n F := by unfold SqAt Ia; rw [← hb]; exact heap_alloc_new _ _
  obtain ⟨w1, hw1⟩ : ∃ w1, w.alloc (.cells (iar 101 (sqC n F)) 42) = w1 := ⟨_, rfl⟩
  rw [hw1] at b1 A1
  have HF := Lib.hid (iforPairs n hn w1 F (.func (.func 80) #[] #[.pointer (some ⟨b, 0, none⟩)]) (isS F)
    ⟨_, _, _, rfl, enters_of Try.func80 (by kernel_rfl) rfl, fun W x y hW hx hy => iS1 W b n hn F (SqAt.below A1 hW (Ia.lt A1)) IQ x y hx hy⟩)
  have X1 := Lib.hid A1
  have HB := Lib.hid b1
  have s1 := b1.size
  rw [hb]
  clear A1 b1
  go_enter Try.func57, Try.ntmps57
  go_wp2_with (refine wpList_load_row rfl 42 (.tmp 1) rfl _ rfl _ _ _ _ X1.out Try.underlying42 rfl (by rw [iar_size]; exact Try.infoSq) ?_)
  refine HF.out.mono ?_
  rintro e w2 ⟨rfl, b2⟩
  have B2 : Hid (Below b w w2) := HB.out.trans (b2.mono (by omega))
  clear b2
  go_wp2
  go_ret
  exact ⟨rfl, B2.out⟩

set_option maxRecDepth 100000 in
set_option maxHeartbeats 4000000 in
theorem iSymm (n : Nat) (hn : n ≤ 10) (w : World) (F : Nat → Nat → Int) (IQ : InSq n F) :
    Calls Try.prog 58 #[.agg (iar 101 (sqC n F))] w fun e w' => e = .returned (.bool (allP n (isC F) && allP n (isS F))) ∧ Below w.heap.size w w' := by
  obtain ⟨b, hb⟩ : ∃ b, w.heap.size = b := ⟨_, rfl⟩
  have b1 : Below b w (w.alloc (.cells (iar 101 (sqC n F)) 42)) := (Below.refl _ _).alloc (by omega) _
  have A1 : SqAt (w.alloc (.cells (iar 101 (sqC n F)) 42)) b n F := by unfold SqAt Ia; rw [← hb]; exact heap_alloc_new _ _
  obtain ⟨w1, hw1⟩ : ∃ w1, w.alloc (.cells (iar 101 (sqC n F)) 42) = w1 := ⟨_, rfl⟩
  rw [hw1] at b1 A1
  have HC := Lib.hid (iComm n hn w1 F IQ)
  have HS := Lib.hid (fun W => iSemi n hn W F IQ)
  obtain ⟨c, hc⟩ : ∃ c, allP n (isC F) = c := ⟨_, rfl⟩
  obtain ⟨s, hs⟩ : ∃ s, allP n (isS F) = s := ⟨_, rfl⟩
  rw [hc] at HC ⊢
  simp only [hs] at HS ⊢
  have X1 := Lib.hid A1
  have HB := Lib.hid b1
  have s1 := b1.size
  have ltb : b < w1.heap.size := Ia.lt A1
  rw [hb]
  clear A1 b1 hc hs
  cases c with
  | false =>
    rw [Bool.false_and]
    go_enter Try.func58, Try.ntmps58
    go_wp2_with (refine wpList_load_row rfl 42 (.tmp 1) rfl _ rfl _ _ _ _ X1.out Try.underlying42 rfl (by rw [iar_size]; exact Try.infoSq) ?_)
    refine HC.out.mono ?_
    rintro e w2 ⟨rfl, b2⟩
    have B2 : Hid (Below b w w2) := HB.out.trans (b2.mono (by omega))
    clear b2
    go_wp2
    go_ret
    exact ⟨rfl, B2.out⟩
  | true =>
    rw [Bool.true_and]
    go_enter Try.func58, Try.ntmps58
    go_wp2_with (refine wpList_load_row rfl 42 (.tmp 1) rfl _ rfl _ _ _ _ X1.out Try.underlying42 rfl (by rw [iar_size]; exact Try.infoSq) ?_)
    refine HC.out.mono ?_
    rintro e w2 ⟨rfl, b2⟩
    have X2 := Lib.hid (SqAt.below X1.out b2 ltb)
    have B2 : Hid (Below b w w2) := HB.out.trans (b2.mono (by omega))
    have s2 := b2.size
    clear b2
    go_wp2_with fail
    refine wp_load_row 42 (.tmp 1) rfl _ rfl _ _ _ _ X2.out Try.underlying42 rfl (by rw [iar_size]; exact Try.infoSq) ?_
    go_wp2_with fail
    refine (HS.out w2).mono ?_
    rintro e w3 ⟨rfl, b3⟩
    have B3 : Hid (Below b w w3) := B2.out.trans (b3.mono (by omega))
    clear b3
    go_wp2
    go_ret
    exact ⟨rfl, B3.out⟩

/-- Every rule is a function that tells whether the square has the identity. -/
theorem rules (n : Nat) (hn : n ≤ 10) (F : Nat → Nat → Int) (IQ : InSq n F) (k : Nat) (h1 : 1 ≤ k) (h8 : k ≤ 8) :
    ∃ fn : Nat, (#[Value.nilFunc, .func (.func 51) #[] #[], .func (.func 52) #[] #[], .func (.func 53) #[] #[], .func (.func 54) #[] #[], .func (.func 55) #[] #[], .func (.func 56) #[] #[], .func (.func 57) #[] #[], .func (.func 58) #[] #[]] : Array Value)[k]? = some (.func (.func fn) #[] #[]) ∧
      (∀ args W, (callFunc fn args).run Try.prog W = .ok (.enter fn args) W) ∧ ∀ W : World, Calls Try.prog fn #[.agg (iar 101 (sqC n F))] W fun e w' => e = .returned (.bool (idB n F k)) ∧ Below W.heap.size W w' := by
  rcases (by omega : k = 1 ∨ k = 2 ∨ k = 3 ∨ k = 4 ∨ k = 5 ∨ k = 6 ∨ k = 7 ∨ k = 8) with rfl | rfl | rfl | rfl | rfl | rfl | rfl | rfl
  · exact ⟨_, rfl, enters_of Try.func51 (by kernel_rfl) rfl, fun W => by rw [id1]; exact iIdem n hn W F IQ⟩
  · exact ⟨_, rfl, enters_of Try.func52 (by kernel_rfl) rfl, fun W => by rw [id2]; exact iUnip n hn W F IQ⟩
  · exact ⟨_, rfl, enters_of Try.func53 (by kernel_rfl) rfl, fun W => by rw [id3]; exact iComm n hn W F IQ⟩
  · exact ⟨_, rfl, enters_of Try.func54 (by kernel_rfl) rfl, fun W => by rw [id4]; exact ihasLeft n hn W F⟩
  · exact ⟨_, rfl, enters_of Try.func55 (by kernel_rfl) rfl, fun W => by rw [id5]; exact ihasRight n hn W F⟩
  · exact ⟨_, rfl, enters_of Try.func56 (by kernel_rfl) rfl, fun W => by rw [id6]; exact iassoc n hn W F IQ⟩
  · exact ⟨_, rfl, enters_of Try.func57 (by kernel_rfl) rfl, fun W => by rw [id7]; exact iSemi n hn W F IQ⟩
  · exact ⟨_, rfl, enters_of Try.func58 (by kernel_rfl) rfl, fun W => by rw [id8]; exact iSymm n hn W F IQ⟩
end Go.Proofs.Ytigcgpgkpkoodab
