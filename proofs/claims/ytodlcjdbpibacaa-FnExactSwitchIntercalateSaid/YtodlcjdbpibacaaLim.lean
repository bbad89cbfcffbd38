/- Slices of the call's own between two bounds; what a write between two bounds leaves as it was. -/
import Derived.Test.YtodlcjdbpibacaaArg
namespace Go.Proofs.Ytodlcjdbpibacaa
open Go.RowKit
set_option linter.unusedVariables false

/-- Only blocks from B on and below L have turned. -/
structure Marked (B L : Nat) (w w' : World) : Prop where
  os : w'.os = w.os
  tape : w'.tape = w.tape
  output : w'.output = w.output
  size : w'.heap.size = w.heap.size
  block : ∀ k, (k < B ∨ L ≤ k) → w'.heap[k]? = w.heap[k]?
theorem Marked.refl (B L : Nat) (w : World) : Marked B L w w := ⟨rfl, rfl, rfl, rfl, fun _ _ => rfl⟩
theorem Marked.trans {B L : Nat} {w w' w'' : World} (h : Marked B L w w') (h' : Marked B L w' w'') : Marked B L w w'' :=
  ⟨h'.os.trans h.os, h'.tape.trans h.tape, h'.output.trans h.output, h'.size.trans h.size, fun k hk => (h'.block k hk).trans (h.block k hk)⟩
theorem Marked.drewN {B L : Nat} {w w' : World} (h : Marked B L w w') (n : Nat) : Marked B L w (w'.drewN n) := ⟨h.os, h.tape, h.output, h.size, h.block⟩
theorem Marked.below {B L : Nat} {w w' : World} (h : Marked B L w w') : Below B w w' :=
  ⟨h.os, h.tape, h.output, Nat.le_of_eq h.size.symm, fun k hk => h.block k (.inl hk)⟩
theorem Marked.wider {B L B' L' : Nat} {w w' : World} (h : Marked B L w w') (hB : B' ≤ B) (hL : L ≤ L') : Marked B' L' w w' :=
  ⟨h.os, h.tape, h.output, h.size, fun k hk => h.block k (by omega)⟩
theorem Marked.of_grown {B L : Nat} {w w' : World} {row : Option Nat} (hg : w.grownBy w' row) (hs : w'.heap.size = w.heap.size) (hr : ∀ k, row = some k → B ≤ k ∧ k < L) : Marked B L w w' :=
  ⟨hg.os, hg.tape, hg.output, hs, fun k hk => by
    by_cases c : k < w.heap.size
    · exact hg.block k c (fun e => by have := hr k e.symm; omega)
    · rw [Array.getElem?_eq_none (by omega), Array.getElem?_eq_none (by omega)]⟩

theorem ownsRow_of_block {w w' : World} {base : Nat} {e : TypeId} {size : Nat} {v : Value} {n : Nat} {xs : List Value} (h : w.ownsRow base e size v n xs) (hb : ∀ k, v.ownBlock = some k → w'.heap[k]? = w.heap[k]?) : w'.ownsRow base e size v n xs := by
  refine ⟨h.1, ?_⟩
  rcases h.2 with hn | ⟨g, cap, cur, rfl, h1, h2, rest⟩
  · exact .inl hn
  · exact .inr ⟨g, cap, cur, rfl, h1, by rw [hb g rfl]; exact h2, rest⟩

/-- A slice of the call's own in a block from B on and below L. -/
def IntsL (w : World) (B L : Nat) (v : Value) (xs : List Int) : Prop := Ints w B v xs ∧ (∀ k, v.ownBlock = some k → k < L) ∧ L ≤ w.heap.size
theorem Ints.lim {w : World} {B : Nat} {v : Value} {xs : List Int} (h : Ints w B v xs) : IntsL w B w.heap.size v xs := ⟨h, fun k e => (World.ownsRow.lt h k e).2, Nat.le_refl _⟩
theorem IntsL.at {w : World} {B L : Nat} {v : Value} {xs : List Int} (h : IntsL w B L v xs) : IntsAt w v xs := h.1.at
theorem IntsL.drewN {w : World} {B L : Nat} {v : Value} {xs : List Int} (h : IntsL w B L v xs) (n : Nat) : IntsL (w.drewN n) B L v xs := h
theorem IntsL.below {w w' : World} {B L B' : Nat} {v : Value} {xs : List Int} (h : IntsL w B L v xs) (hb : Below B' w w') (hs : w.heap.size ≤ B') : IntsL w' B L v xs :=
  ⟨h.1.below hb hs, h.2.1, Nat.le_trans h.2.2 hb.size⟩
theorem IntsL.keep {w w' : World} {B L B' L' : Nat} {v : Value} {xs : List Int} (h : IntsL w B L v xs) (m : Marked B' L' w w') (d : L ≤ B' ∨ L' ≤ B) : IntsL w' B L v xs :=
  ⟨ownsRow_of_block h.1 (fun k e => m.block k (by have := h.2.1 k e; have := (World.ownsRow.lt h.1 k e).1; omega)), h.2.1, by rw [m.size]; exact h.2.2⟩
theorem IntsL.mono {w : World} {B L B' L' : Nat} {v : Value} {xs : List Int} (h : IntsL w B L v xs) (hB : B' ≤ B) (hL : L ≤ L') (hs : L' ≤ w.heap.size) : IntsL w B' L' v xs :=
  ⟨h.1.mono hB, fun k e => Nat.lt_of_lt_of_le (h.2.1 k e) hL, hs⟩
theorem mark_ownL (w : World) (B L : Nat) (v : Value) (xs : List Int) (k : Int) (h : IntsL w B L v xs) (k0 : 0 ≤ k) (k1 : k + xs.length ≤ 9223372036854775807) :
    Calls Try.prog 12 #[v, .int .i64 k] w fun e w' => e = .returned (.int .i64 (k + xs.length)) ∧ IntsL w' B L v (marks k xs.length) ∧ Marked B L w w' :=
  (mark_own w B v xs k h.1 k0 k1).mono fun e w' ⟨h1, h2, h3, h4⟩ =>
    ⟨h1, ⟨h2, h.2.1, by rw [h4]; exact h.2.2⟩, Marked.of_grown h3 h4 (fun k e => ⟨(World.ownsRow.lt h.1 k e).1, h.2.1 k e⟩)⟩
theorem copy_anyL (w : World) (v : Value) (xs : List Int) (hv : IntsAt w v xs) (hx : xs.length ≤ 1048576) :
    Calls Try.prog 7 #[v] w fun e w' => ∃ v', e = .returned v' ∧ IntsL w' w.heap.size w'.heap.size v' xs ∧ Below w.heap.size w w' :=
  (copy_any w v xs hv hx).mono fun e w' ⟨v', h1, h2, h3⟩ => ⟨v', h1, h2.lim, h3⟩
theorem Marked.t_mark {w w1 w2 : World} {B L : Nat} (T : Below w.heap.size w w1) (m : Marked B L w1 w2) (hB : w.heap.size ≤ B) : Below w.heap.size w w2 := T.trans (m.below.mono hB)

theorem Ints.len_eq {w : World} {B : Nat} {v : Value} {xs : List Int} (h : Ints w B v xs) : ∃ a c, v = .slice a xs.length c := by
  obtain ⟨_, ⟨rfl, h2⟩ | ⟨g, cap, cur, rfl, _⟩⟩ := h
  · exact ⟨none, 0, by rw [h2]⟩
  · exact ⟨_, _, rfl⟩
theorem nilI (w : World) (B : Nat) : Ints w B (.slice none 0 0) [] := World.ownsRow_nil _ _ _ _
theorem nilAt (w : World) : IntsAt w (.slice none 0 0) [] := (nilI w 0).at
/-- No longer than its room. -/
def CapOk (v : Value) : Prop := match v with | .slice _ l c => l ≤ c | _ => True
theorem Ints.capOk {w : World} {B : Nat} {v : Value} {xs : List Int} (h : Ints w B v xs) : CapOk v := by
  obtain ⟨_, ⟨rfl, h2⟩ | ⟨g, cap, cur, rfl, h3, h4, h5, h6, h7, h8⟩⟩ := h
  · exact Nat.le_refl _
  · exact h5
/-- A slice that reads as xs and can be cut. -/
def IntsC (w : World) (v : Value) (xs : List Int) : Prop := IntsAt w v xs ∧ CapOk v
theorem IntsC.drewN {w : World} {v : Value} {xs : List Int} (h : IntsC w v xs) (n : Nat) : IntsC (w.drewN n) v xs := h
theorem IntsC.below {w w' : World} {B : Nat} {v : Value} {xs : List Int} (h : IntsC w v xs) (hb : Below B w w') (hs : w.heap.size ≤ B) : IntsC w' v xs := ⟨h.1.below hb hs, h.2⟩
theorem Ints.c {w : World} {B : Nat} {v : Value} {xs : List Int} (h : Ints w B v xs) : IntsC w v xs := ⟨h.at, h.capOk⟩
theorem IntsL.c {w : World} {B L : Nat} {v : Value} {xs : List Int} (h : IntsL w B L v xs) : IntsC w v xs := h.1.c
/-- The parts of such a slice. -/
theorem IntsC.part {w : World} {v : Value} {xs : List Int} (h : IntsC w v xs) : ∃ a cap, v = .slice a xs.length cap ∧ xs.length ≤ cap ∧ xs.length ≤ 9223372036854775807 ∧ ∀ j, j < xs.length → ∃ g off, a = some ⟨g, off, none⟩ ∧ g < w.heap.size ∧ w.cell? ⟨g, off + j, none⟩ = some (.int .i64 (xs.getD j 0)) := by
  obtain ⟨⟨h0, ⟨rfl, a, cap, rfl⟩ | ⟨g, off, cap, rfl, hc⟩⟩, hk⟩ := h
  · exact ⟨a, cap, rfl, hk, h0, fun j hj => by simp at hj⟩
  · exact ⟨_, cap, rfl, hk, h0, fun j hj => ⟨g, off, rfl, World.block_lt_of_cell? w _ (hc j hj), hc j hj⟩⟩
/-- A number that a variable of int64 can hold. -/
def I64 (n : Int) : Prop := -9223372036854775808 ≤ n ∧ n ≤ 9223372036854775807
theorem I64.of_wf {n : Int} (h : (Lit.int .i64 n).wf = true) : I64 n := by
  simpa [I64, Lit.wf, IntKind.min, IntKind.max, IntKind.signed, IntKind.bits] using h
/-- A list as a law hands it on. -/
def SmallL (xs : List Int) : Prop := xs.length ≤ 1048576 ∧ ∀ x ∈ xs, I64 x
/-- How many numbers are in the rows. -/
def tot (xss : List (List Int)) : Nat := (xss.map List.length).sum
theorem tot_nil : tot [] = 0 := rfl
theorem tot_cons (r : List Int) (xss : List (List Int)) : tot (r :: xss) = r.length + tot xss := rfl
theorem tot_append : ∀ (xss yss : List (List Int)), tot (xss ++ yss) = tot xss + tot yss
  | [], yss => by simp [tot]
  | r :: xss, yss => by rw [List.cons_append, tot_cons, tot_cons, tot_append xss yss]; omega
theorem tot_mem : ∀ (xss : List (List Int)) (r : List Int), r ∈ xss → r.length ≤ tot xss
  | [], _, h => by cases h
  | q :: xss, r, h => by
    rw [tot_cons]
    rcases List.mem_cons.1 h with rfl | h
    · omega
    · have := tot_mem xss r h; omega
def SmallLL (xss : List (List Int)) : Prop := xss.length + tot xss ≤ 1048576 ∧ ∀ r ∈ xss, ∀ x ∈ r, I64 x
theorem t_chain {w w1 w2 : World} (T : Below w.heap.size w w1) (b : Below w1.heap.size w1 w2) : Below w.heap.size w w2 := T.trans (b.mono T.size)
theorem IsRow.all {w : World} {a : Option Addr} {len cap : Nat} {zs : List Int} (h : IsRow .i64 w a len cap zs) : ∀ x ∈ zs.take len, I64 x := by
  intro x hx
  rcases h with ⟨rfl, rfl, rfl, rfl⟩ | ⟨_, rfl, h1, h2, h3, h4, h5⟩
  · simp at hx
  · exact I64.of_wf (h5 x (List.mem_of_mem_take hx))
end Go.Proofs.Ytodlcjdbpibacaa
