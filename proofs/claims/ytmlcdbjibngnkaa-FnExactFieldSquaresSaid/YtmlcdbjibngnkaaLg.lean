/- The worlds of a law on a field. -/
import Derived.Test.YtmlcdbjibngnkaaLf
namespace Go.Proofs.Ytmlcdbjibngnkaa
open Go.RowKit
set_option linter.unusedVariables false

/-- The argument of the law. -/
def Fl (w : World) (g : Nat) (P K : Int) (v : Value) : Prop := w.heap[g]? = some (.cells #[.int .i64 P, .int .i64 K, v] 37 (0, 0))
theorem Fl.cells {w : World} {g : Nat} {P K : Int} {v : Value} (h : Fl w g P K v) : w.cell? ⟨g, 0, none⟩ = some (.int .i64 P) ∧ w.cell? ⟨g, 1, none⟩ = some (.int .i64 K) ∧ w.cell? ⟨g, 2, none⟩ = some v :=
  ⟨by rw [cell_of_row w g 0 _ _ _ h]; rfl, by rw [cell_of_row w g 1 _ _ _ h]; rfl, by rw [cell_of_row w g 2 _ _ _ h]; rfl⟩
theorem Fl.lt {w : World} {g : Nat} {P K : Int} {v : Value} (h : Fl w g P K v) : g < w.heap.size := by
  unfold Fl at h; exact (Array.getElem?_eq_some_iff.1 h).1
theorem Fl.below {w w' : World} {g : Nat} {P K : Int} {v : Value} (h : Fl w g P K v) (hb : Below w.heap.size w w') : Fl w' g P K v := (hb.block g h.lt).trans h
theorem Fl.alloc {w : World} {g : Nat} {P K : Int} {v : Value} (h : Fl w g P K v) (o : Obj) : Fl (w.alloc o) g P K v := (heap_alloc_old _ o h.lt).trans h
theorem Fl.new (w : World) (P K : Int) (v : Value) : Fl (w.alloc (.cells #[.int .i64 P, .int .i64 K, v] 37)) w.heap.size P K v := heap_alloc_new w _
theorem Fd.next {w w' : World} {g : Nat} {P K : Int} {v : Value} (h : Fd w g P K v) (hb : Below w.heap.size w w') : Fd w' g P K v := (hb.block g h.lt).trans h
/-- The worlds of a law's walk. -/
def St (w : World) (P K : Int) (v : Value) (xs : List Int) (w' : World) : Prop := Fl w' w.heap.size P K v ∧ IntsAt w' v xs ∧ Below w.heap.size w w'
theorem St.start {w : World} {P K : Int} {v : Value} {xs : List Int} (hv : IntsAt w v xs) : Hid (St w P K v xs (w.alloc (.cells #[.int .i64 P, .int .i64 K, v] 37))) := by
  have hb : Below w.heap.size w (w.alloc (.cells #[.int .i64 P, .int .i64 K, v] 37)) := (Below.refl _ _).alloc (Nat.le_refl _) _
  exact ⟨Fl.new w P K v, hv.below hb (Nat.le_refl _), hb⟩
theorem St.next {w : World} {P K : Int} {v : Value} {xs : List Int} {w1 w2 : World} (h : Hid (St w P K v xs w1)) (hb : Below w1.heap.size w1 w2) : Hid (St w P K v xs w2) :=
  ⟨h.out.1.below hb, h.out.2.1.below hb (Nat.le_refl _), h.out.2.2.trans (hb.mono h.out.2.2.size)⟩
theorem St.alloc {w : World} {P K : Int} {v : Value} {xs : List Int} {w1 : World} (h : Hid (St w P K v xs w1)) (o : Obj) : Hid (St w P K v xs (w1.alloc o)) := St.next h ((Below.refl _ _).alloc (Nat.le_refl _) o)
/-- A field of the walk's own. -/
def Own (g : Nat) (P K : Int) (v : Value) (xs : List Int) (w' : World) : Prop := Fd w' g P K v ∧ IntsAt w' v xs
theorem Own.next {g : Nat} {P K : Int} {v : Value} {xs : List Int} {w1 w2 : World} (h : Hid (Own g P K v xs w1)) (hb : Below w1.heap.size w1 w2) : Hid (Own g P K v xs w2) :=
  ⟨h.out.1.next hb, h.out.2.below hb (Nat.le_refl _)⟩
theorem held6 {w : World} {P K : Int} {v u : Value} {xs : List Int} {g : Nat} {w' : World} (h : Hid (St w P K v xs w' ∧ Own g P K u xs w')) :
    w'.cell? ⟨w.heap.size, 0, none⟩ = some (.int .i64 P) ∧ w'.cell? ⟨w.heap.size, 1, none⟩ = some (.int .i64 K) ∧ w'.cell? ⟨w.heap.size, 2, none⟩ = some v ∧ w'.cell? ⟨g, 0, none⟩ = some (.int .i64 P) ∧ w'.cell? ⟨g, 1, none⟩ = some (.int .i64 K) ∧ w'.cell? ⟨g, 2, none⟩ = some u ∧ Hid (St w P K v xs w' ∧ Own g P K u xs w') := by
  obtain ⟨a0, a1, a2⟩ := h.out.1.1.cells
  obtain ⟨b0, b1, b2⟩ := h.out.2.1.cells
  exact ⟨a0, a1, a2, b0, b1, b2, h⟩
theorem held_both {w : World} {P K : Int} {v u : Value} {xs : List Int} {g : Nat} {w1 w2 : World} (h : Hid (St w P K v xs w1 ∧ Own g P K u xs w1)) (hb : Below w1.heap.size w1 w2) : Hid (St w P K v xs w2 ∧ Own g P K u xs w2) :=
  ⟨St.next (Lib.hid h.out.1) hb, Own.next (Lib.hid h.out.2) hb⟩
theorem held_drew {w : World} {P K : Int} {v u : Value} {xs : List Int} {g : Nat} {w1 : World} (h : Hid (St w P K v xs w1 ∧ Own g P K u xs w1)) : Hid (St w P K v xs w1.drew ∧ Own g P K u xs w1.drew) :=
  held_both h (Below.refl _ _).drew

end Go.Proofs.Ytmlcdbjibngnkaa
