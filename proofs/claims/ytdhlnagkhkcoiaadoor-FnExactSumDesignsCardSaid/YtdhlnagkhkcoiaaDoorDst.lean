/- Laws of one design: what stands while the law is walked. -/
import Derived.Test.YtdhlnagkhkcoiaaDoorGrpD
import Derived.Deep.RegionHeld3
import Derived.Deep.Cut
namespace Go.Proofs.YtdhlnagkhkcoiaaDoor
open Go.RowKit
set_option linter.unusedVariables false

/-- A structure in block g. -/
def Gb (w : World) (g : Nat) (n : Int) (v : Value) (T : TypeId) : Prop := w.heap[g]? = some (.cells #[.int .i64 n, v] T (0, 0))
theorem Gb.cells {w : World} {g : Nat} {n : Int} {v : Value} {T : TypeId} (h : Gb w g n v T) : w.cell? ⟨g, 0, none⟩ = some (.int .i64 n) ∧ w.cell? ⟨g, 1, none⟩ = some v :=
  ⟨by rw [cell_of_row w g 0 _ _ _ h]; rfl, by rw [cell_of_row w g 1 _ _ _ h]; rfl⟩
theorem Gb.lt {w : World} {g : Nat} {n : Int} {v : Value} {T : TypeId} (h : Gb w g n v T) : g < w.heap.size := by
  unfold Gb at h; exact (Array.getElem?_eq_some_iff.1 h).1
theorem Gb.next {w w' : World} {g : Nat} {n : Int} {v : Value} {T : TypeId} (h : Gb w g n v T) (hb : Below w.heap.size w w') : Gb w' g n v T := (hb.block g h.lt).trans h
theorem Gb.mark {w w' : World} {g B L : Nat} {n : Int} {v : Value} {T : TypeId} (h : Gb w g n v T) (m : Marked B L w w') (d : g < B ∨ L ≤ g) : Gb w' g n v T := (m.block g d).trans h
/-- The argument, in block A and rows below it; and what has grown since the law began. -/
def Arg (w : World) (A : Nat) (n : Int) (v : Value) (T : TypeId) (xs : List (List Int)) (W : World) : Prop := A = w.heap.size ∧ RowsAt w v xs ∧ Gb W A n v T ∧ Below w.heap.size w W
theorem Arg.next {w W W' : World} {A : Nat} {n : Int} {v : Value} {T : TypeId} {xs : List (List Int)} (h : Hid (Arg w A n v T xs W)) (hb : Below W.heap.size W W') : Hid (Arg w A n v T xs W') :=
  ⟨h.out.1, h.out.2.1, h.out.2.2.1.next hb, h.out.2.2.2.trans (hb.mono h.out.2.2.2.size)⟩
theorem Arg.mark {w W W' : World} {A B L : Nat} {n : Int} {v : Value} {T : TypeId} {xs : List (List Int)} (h : Hid (Arg w A n v T xs W)) (m : Marked B L W W') (hB : A < B) : Hid (Arg w A n v T xs W') :=
  ⟨h.out.1, h.out.2.1, h.out.2.2.1.mark m (.inl hB), h.out.2.2.2.trans (m.below.mono (by have := h.out.1; omega))⟩
theorem Arg.rows {w W : World} {A : Nat} {n : Int} {v : Value} {T : TypeId} {xs : List (List Int)} (h : Hid (Arg w A n v T xs W)) : RowsAt W v xs := h.out.2.1.below h.out.2.2.2 (Nat.le_refl _)
theorem Arg.new {w : World} (n : Int) {v : Value} (T : TypeId) {xs : List (List Int)} (h : RowsAt w v xs) : Hid (Arg w w.heap.size n v T xs (w.alloc (.cells #[.int .i64 n, v] T))) :=
  ⟨rfl, h, heap_alloc_new w _, (Below.refl _ _).alloc (Nat.le_refl _) _⟩
/-- The copy, in block X behind its rows (from b on and below X), which hold as many numbers. -/
def Cpy (X b : Nat) (n : Int) (v : Value) (T : TypeId) (xs : List (List Int)) (W : World) : Prop := Gb W X n v T ∧ RowsL W b X v xs ∧ b ≤ X
theorem Cpy.next {W W' : World} {X b : Nat} {n : Int} {v : Value} {T : TypeId} {xs : List (List Int)} (h : Hid (Cpy X b n v T xs W)) (hb : Below W.heap.size W W') : Hid (Cpy X b n v T xs W') :=
  ⟨h.out.1.next hb, h.out.2.1.below hb (Nat.le_refl _), h.out.2.2⟩
theorem Cpy.new {W : World} {b : Nat} (n : Int) {v : Value} (T : TypeId) {xs : List (List Int)} (h : RowsL W b W.heap.size v xs) (hb : b ≤ W.heap.size) : Hid (Cpy W.heap.size b n v T xs (W.alloc (.cells #[.int .i64 n, v] T))) :=
  ⟨heap_alloc_new W _, h.below ((Below.refl _ _).alloc (Nat.le_refl _) _) (Nat.le_refl _), hb⟩

theorem mark_Design (w : World) (B L : Nat) (n : Int) (v : Value) (xss : List (List Int)) (k : Int) (h : RowsL w B L v xss) (k0 : 0 ≤ k) (k1 : k + tot xss ≤ 9000000000000000000) :
    Calls Tryd.prog 18 #[.agg #[.int .i64 n, v], .int .i64 k] w fun e w' => e = .returned (.int .i64 (k + tot xss)) ∧ Marked B L (w.alloc (.cells #[.int .i64 n, v] 27)) w' := by
  have hb : Below w.heap.size w (w.alloc (.cells #[.int .i64 n, v] 27)) := (Below.refl _ _).alloc (Nat.le_refl _) _
  have HM := Lib.hid (mark_rows _ B L v xss k (h.below hb (Nat.le_refl _)) k0 k1)
  obtain ⟨a, cap, rfl, -⟩ := h.at.shape
  clear h hb
  go_enter Tryd.func18, Tryd.ntmps18
  go_wp2_with fail
  refine HM.out.mono ?_
  rintro e w1 ⟨rfl, -, hm⟩
  have M := Lib.hid hm
  clear hm
  go_wp2
  go_ret
  exact ⟨rfl, M.out⟩
theorem held_arg {w W : World} {A X b : Nat} {n n' : Int} {v v' : Value} {T T' : TypeId} {xs xs' : List (List Int)} (h : Hid (Arg w A n v T xs W)) (h' : Hid (Cpy X b n' v' T' xs' W)) :
    (W.cell? ⟨A, 0, none⟩ = some (.int .i64 n) ∧ W.cell? ⟨A, 1, none⟩ = some v) ∧ (W.cell? ⟨X, 0, none⟩ = some (.int .i64 n') ∧ W.cell? ⟨X, 1, none⟩ = some v') ∧ Hid (Arg w A n v T xs W) ∧ Hid (Cpy X b n' v' T' xs' W) :=
  ⟨h.out.2.2.1.cells, h'.out.1.cells, h, h'⟩
/-- What a predicate on worlds keeps while only new memory comes. -/
def Keeps (P : World → Prop) : Prop := ∀ W W' : World, Below W.heap.size W W' → P W → P W'
def StD (P : World → Prop) (w : World) (A X b : Nat) (n : Int) (v v' : Value) (xs : List (List Int)) (W : World) : Prop :=
  Arg w A n v 24 xs W ∧ Cpy X b n v' 27 xs W ∧ P W
theorem StD.next {P : World → Prop} (hP : Keeps P) {w W W' : World} {A X b : Nat} {n : Int} {v v' : Value} {xs : List (List Int)} (h : Hid (StD P w A X b n v v' xs W)) (hb : Below W.heap.size W W') : Hid (StD P w A X b n v v' xs W') :=
  ⟨(Arg.next (Lib.hid h.out.1) hb).out, (Cpy.next (Lib.hid h.out.2.1) hb).out, hP W W' hb h.out.2.2⟩
theorem held_std {P : World → Prop} {w W : World} {A X b : Nat} {n : Int} {v v' : Value} {xs : List (List Int)} (h : Hid (StD P w A X b n v v' xs W)) :
    (W.cell? ⟨A, 0, none⟩ = some (.int .i64 n) ∧ W.cell? ⟨A, 1, none⟩ = some v) ∧ (W.cell? ⟨X, 0, none⟩ = some (.int .i64 n) ∧ W.cell? ⟨X, 1, none⟩ = some v') ∧ Hid (StD P w A X b n v v' xs W) :=
  ⟨h.out.1.2.2.1.cells, h.out.2.1.1.cells, h⟩
end Go.Proofs.YtdhlnagkhkcoiaaDoor
