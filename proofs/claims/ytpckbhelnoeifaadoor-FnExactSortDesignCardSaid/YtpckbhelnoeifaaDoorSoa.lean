/- sort.Slice with a `less` that makes memory: the worlds that the sort passes through. Everything but the block of the sorted row stays; the row holds the list. -/
import Derived.Shelf.SlSortFunc.BreakPatterns
import Derived.Deep.LoopGhost
import Derived.Lib.Hide
namespace Go.Proofs.YtpckbhelnoeifaaDoor
open Go.Shelf Go.RowKit Go.Lib Go.Sort
set_option linter.unusedVariables false
variable {P : Program} {ρ : Ren} {α : Type} [Inhabited α]

/-- Apart from block blk the world W' is as W was. -/
structure Off (blk : Nat) (W W' : World) : Prop where
  os : W'.os = W.os
  tape : W'.tape = W.tape
  output : W'.output = W.output
  size : W.heap.size ≤ W'.heap.size
  block : ∀ k, k < W.heap.size → k ≠ blk → W'.heap[k]? = W.heap[k]?

theorem Off.refl (blk : Nat) (W : World) : Off blk W W := ⟨rfl, rfl, rfl, Nat.le_refl _, fun _ _ _ => rfl⟩
theorem Off.trans {blk : Nat} {a b c : World} (h : Off blk a b) (k : Off blk b c) : Off blk a c :=
  ⟨k.os.trans h.os, k.tape.trans h.tape, k.output.trans h.output, Nat.le_trans h.size k.size, fun i hi hn => (k.block i (Nat.lt_of_lt_of_le hi h.size) hn).trans (h.block i hi hn)⟩
theorem Off.below {blk : Nat} {W W' : World} (h : RowKit.Below W.heap.size W W') : Off blk W W' := ⟨h.os, h.tape, h.output, h.size, fun k hk _ => h.block k hk⟩
theorem Off.set (W : World) (blk o : Nat) (v : Value) : Off blk W (W.setCell ⟨blk, o, none⟩ v) :=
  ⟨rfl, rfl, rfl, by simp [World.setCell], fun k _ hn => RowKit.Below.heap_setCell _ _ _ _ hn⟩
theorem Off.cell {blk : Nat} {W W' : World} (h : Off blk W W') {p : Addr} (hp : p.block < W.heap.size) (hn : p.block ≠ blk) : W'.cell? p = W.cell? p := World.cell?_of_block (w := W) (h.block p.block hp hn)
theorem Off.frozen {blk : Nat} {W W' : World} (h : Off blk W W') {p : Addr} (hp : p.block < W.heap.size) (hn : p.block ≠ blk) : W'.frozen? p = W.frozen? p := World.frozen?_of_block (w := W) (h.block p.block hp hn)

/-- From W0 on: all but the row's block stays, the row holds d. -/
structure St (enc : α → Value) (W0 : World) (blk off : Nat) (d : Array α) (W : World) : Prop where
  ap : Off blk W0 W
  row : W.heap[blk]? = (putRow enc W0 blk off d).heap[blk]?

theorem onCells_comp (f g : Array Value → Array Value) (o : Obj) : onCells g (onCells f o) = onCells (fun c => g (f c)) o := by cases o <;> rfl
theorem heap_mapBlock (w : World) (blk : Nat) (f : Array Value → Array Value) : (mapBlock w blk f).heap[blk]? = (w.heap[blk]?).map (onCells f) := by
  simp [mapBlock, Array.getElem?_modify]
theorem heap_putRow (enc : α → Value) (w w' : World) (blk off : Nat) (d : Array α) (h : w.heap[blk]? = w'.heap[blk]?) : (putRow enc w blk off d).heap[blk]? = (putRow enc w' blk off d).heap[blk]? := by
  unfold putRow; rw [heap_mapBlock, heap_mapBlock, h]
theorem heap_set2 (w w' : World) (blk o1 o2 : Nat) (v1 v2 : Value) (h : w.heap[blk]? = w'.heap[blk]?) :
    ((w.setCell ⟨blk, o1, none⟩ v1).setCell ⟨blk, o2, none⟩ v2).heap[blk]? = ((w'.setCell ⟨blk, o1, none⟩ v1).setCell ⟨blk, o2, none⟩ v2).heap[blk]? := by
  rw [setCell_eq, setCell_eq, setCell_eq, setCell_eq, mapBlock_mapBlock, mapBlock_mapBlock, heap_mapBlock, heap_mapBlock, h]
theorem holds_of_heap {enc : α → Value} {w w' : World} {blk off : Nat} {d : Array α} (h : w'.heap[blk]? = w.heap[blk]?) (hH : Holds enc w blk off d) : Holds enc w' blk off d := fun j hj =>
  ⟨(World.cell?_of_block (w := w) (a := ⟨blk, off + j, none⟩) h).trans (hH j hj).1, (World.frozen?_of_block (w := w) (a := ⟨blk, off + j, none⟩) h).trans (hH j hj).2⟩

section
variable {enc : α → Value} {W0 W W' : World} {blk off : Nat} {d d' d0 : Array α}
theorem St.start (h : Holds enc W0 blk off d) : St enc W0 blk off d W0 := ⟨Off.refl _ _, by rw [putRow_self enc W0 blk off d h]⟩
theorem St.below (h : St enc W0 blk off d W) (hb : RowKit.Below W.heap.size W W') (hl : blk < W.heap.size) : St enc W0 blk off d W' :=
  ⟨h.ap.trans (Off.below hb), (hb.block blk hl).trans h.row⟩
theorem St.holds (h : St enc W0 blk off d W) (h0 : Holds enc W0 blk off d0) (hs : d.size = d0.size) : Holds enc W blk off d :=
  holds_of_heap h.row (holds_putRow enc W0 blk off d0 d h0 hs)
theorem St.swap (h : St enc W0 blk off d W) (i j : Nat) (hi : i < d.size) (hj : j < d.size) :
    St enc W0 blk off (swp d i j) ((W.setCell ⟨blk, off + i, none⟩ (enc d[j]!)).setCell ⟨blk, off + j, none⟩ (enc d[i]!)) :=
  ⟨(h.ap.trans (Off.set _ _ _ _)).trans (Off.set _ _ _ _), by rw [heap_set2 W (putRow enc W0 blk off d) blk _ _ _ _ h.row, putRow_swp enc W0 blk off d i j hi hj]⟩
theorem St.then (h : St enc W0 blk off d W) (k : St enc W blk off d' W') (hs : d'.size = d.size) : St enc W0 blk off d' W' :=
  ⟨h.ap.trans k.ap, by rw [k.row, heap_putRow enc W (putRow enc W0 blk off d) blk off d' h.row, putRow_putRow enc W0 blk off d d' hs]⟩
/-- What a contract of the kit ends in. -/
theorem St.of_sortWorld (h : blk < W0.heap.size) (hw : ∃ n os, W = sortWorld enc W0 blk off n d os) : St enc W0 blk off d W := by
  obtain ⟨n, os, rfl⟩ := hw
  have hl : (putRow enc (Sort.ahead W0 n) blk off d).heap.size = W0.heap.size := by rw [Sort.size_putRow]; rfl
  refine ⟨⟨rfl, rfl, rfl, ?_, fun k hk hn => ?_⟩, ?_⟩
  · unfold sortWorld; rw [size_grow, hl]; exact Nat.le_add_right _ _
  · unfold sortWorld
    rw [heap_grow_old _ _ (by rw [hl]; exact hk)]
    unfold putRow mapBlock
    simp only [Array.getElem?_modify]
    rw [if_neg (fun e => hn e.symm)]; rfl
  · unfold sortWorld
    rw [heap_grow_old _ _ (by rw [hl]; exact h)]
    rfl
end

/-- What is asked of `less`: at each world of the sort it hands back lt, and may make memory of its own. -/
def LessOwn (P : Program) (g : Nat) (lb : Array Value) (enc : α → Value) (lt : α → α → Bool) (blk off n : Nat) (W0 : World) : Prop :=
  ∀ (W : World) (d : Array α), St enc W0 blk off d W → d.size = n → ∀ i j : Nat, i < n → j < n →
    Calls P g (#[.int .i64 i, .int .i64 j] ++ lb) W fun e w' => e = .returned (.bool (lt d[i]! d[j]!)) ∧ RowKit.Below W.heap.size W w'

/-- All that a function of the sort is given at its world. -/
structure En (P : Program) (enc : α → Value) (lt : α → α → Bool) (g : Nat) (lb : Array Value) (sf : Nat) (sb : Array Value) (blk off n : Nat) (d : Array α) (W0 : World) : Prop where
  eg : ∀ args w, (callFunc g args).run P w = .ok (.enter g args) w
  less : LessOwn P g lb enc lt blk off n W0
  swap : SwapSwaps P sf sb enc blk off n
  hd : d.size = n
  hH : Holds enc W0 blk off d
  hblk : blk < W0.heap.size
  hsz : n < 4611686018427387904

/-- A function's state: its own box (block B) and the row. -/
structure Sx (enc : α → Value) (blk off n : Nat) (x y : Value) (B : Nat) (W0 : World) (d : Array α) (W : World) : Prop where
  st : St enc W0 blk off d W
  hd : d.size = n
  c0 : W.cell? ⟨B, 0, none⟩ = some x
  c1 : W.cell? ⟨B, 1, none⟩ = some y
  lt : B < W.heap.size
  blt : blk < W.heap.size
  ne : B ≠ blk

section
variable {enc : α → Value} {lt : α → α → Bool} {g : Nat} {lb : Array Value} {sf : Nat} {sb : Array Value} {W0 W W' : World} {blk off n B : Nat} {x y : Value} {d d' d0 : Array α}

theorem Sx.to {W0 : World} (h : Sx enc blk off n x y B W0 d W) (hs : St enc W blk off d' W') (hd : d'.size = n) : Sx enc blk off n x y B W0 d' W' :=
  ⟨h.st.then hs (hd.trans h.hd.symm), hd, by rw [hs.ap.cell (p := ⟨B, 0, none⟩) h.lt h.ne]; exact h.c0, by rw [hs.ap.cell (p := ⟨B, 1, none⟩) h.lt h.ne]; exact h.c1,
    Nat.lt_of_lt_of_le h.lt hs.ap.size, Nat.lt_of_lt_of_le h.blt hs.ap.size, h.ne⟩
theorem En.holds (E : En P enc lt g lb sf sb blk off n d0 W0) (h : Sx enc blk off n x y B W0 d W) : Holds enc W blk off d := h.st.holds E.hH (h.hd.trans E.hd.symm)
/-- The environment at a later world. -/
theorem En.at (E : En P enc lt g lb sf sb blk off n d0 W0) (h : Sx enc blk off n x y B W0 d W) : En P enc lt g lb sf sb blk off n d W :=
  ⟨E.eg, fun W1 d1 h1 e1 i j hi hj => E.less W1 d1 (h.st.then h1 (e1.trans h.hd.symm)) e1 i j hi hj, E.swap, h.hd, E.holds h, h.blt, E.hsz⟩
/-- `less` in a function's walk. -/
theorem En.lessAt (E : En P enc lt g lb sf sb blk off n d0 W0) (h : Sx enc blk off n x y B W0 d W) (i j : Nat) (zi zj : Int) (hi : i < n) (hj : j < n) (ei : zi = i) (ej : zj = j) (v : Bool) (hv : lt d[i]! d[j]! = v) :
    Calls P g (#[.int .i64 zi, .int .i64 zj] ++ lb) W fun e w' => e = .returned (.bool v) ∧ Sx enc blk off n x y B W0 d w' := by
  subst ei ej
  refine (E.less W d h.st h.hd i j hi hj).mono ?_
  rintro e w' ⟨he, hb⟩
  exact ⟨hv ▸ he, h.to ⟨Off.below hb, by rw [hb.block blk h.blt, putRow_self enc W blk off d (E.holds h)]⟩ h.hd⟩
/-- `swap` in a function's walk: the world behind it is a name. -/
theorem En.swapAt (E : En P enc lt g lb sf sb blk off n d0 W0) (h : Sx enc blk off n x y B W0 d W) (i j : Nat) (zi zj : Int) (hi : i < n) (hj : j < n) (ei : zi = i) (ej : zj = j) :
    ∃ W2, (callFunc sf (#[.int .i64 zi, .int .i64 zj] ++ sb)).run P W = .ok (.value (.tuple #[])) W2 ∧ Sx enc blk off n x y B W0 (swp d i j) W2 := by
  subst ei ej
  refine ⟨_, E.swap W d (E.holds h) h.hd i j hi hj, h.to ((St.start (E.holds h)).swap i j (by rw [h.hd]; exact hi) (by rw [h.hd]; exact hj)) (by rw [size_swp]; exact h.hd)⟩
/-- The box laid. -/
theorem En.box (E : En P enc lt g lb sf sb blk off n d W0) (x y : Value) (t : TypeId) : Sx enc blk off n x y W0.heap.size W0 d (W0.alloc (.cells #[x, y] t)) :=
  ⟨⟨Off.below ((RowKit.Below.refl _ _).alloc (Nat.le_refl _) _), by rw [RowKit.Below.heap_alloc _ _ _ E.hblk, putRow_self enc W0 blk off d E.hH]⟩, E.hd, by simp, by simp, by simp, by have := E.hblk; simp; omega, by have := E.hblk; omega⟩
end
end Go.Proofs.YtpckbhelnoeifaaDoor
