/- sort.Slice with a `less` that makes memory: the worlds that the sort passes through. Everything but the block of the sorted row stays; the row holds the list. -/
import Derived.Shelf.SlSortFunc.BreakPatterns
import Derived.Deep.LoopGhost
import Derived.Lib.Hide
import Derived.Sort.WalkB2
import Derived.Sort.WalkB3
import Derived.Sort.Walk11
import Derived.Sort.LotD1
import Derived.Sort.LotD4
namespace Go.Proofs.YtdhlnagkhkcoiaaDoor
open Go.Shelf Go.RowKit Go.Lib Go.Sort
set_option linter.unusedVariables false
variable {P : Program} {ρ : Ren} {α : Type} [Inhabited α]

/-- Apart from block blk the world W' is as W was. -/
structure Off (blk : Nat) (W W' : World) : Prop where
  os : W'.os = W.os
  tape : W'.tape = W.tape
  output : W'.output = W.output
  size : W.heap.size ≤ W'.heap.size
  block : ∀ k, k < W.heap.size → k ≠ blk → W'.heap[k]? = W.heap[k]?

theorem Off.refl (blk : Nat) (W : World) : Off blk W W := ⟨rfl, rfl, rfl, Nat.le_refl _, fun _ _ _ => rfl⟩
theorem Off.trans {blk : Nat} {a b c : World} (h : Off blk a b) (k : Off blk b c) : Off blk a c :=
  ⟨k.os.trans h.os, k.tape.trans h.tape, k.output.trans h.output, Nat.le_trans h.size k.size, fun i hi hn => (k.block i (Nat.lt_of_lt_of_le hi h.size) hn).trans (h.block i hi hn)⟩
theorem Off.below {blk : Nat} {W W' : World} (h : RowKit.Below W.heap.size W W') : Off blk W W' := ⟨h.os, h.tape, h.output, h.size, fun k hk _ => h.block k hk⟩
theorem Off.set (W : World) (blk o : Nat) (v : Value) : Off blk W (W.setCell ⟨blk, o, none⟩ v) :=
  ⟨rfl, rfl, rfl, by simp [World.setCell], fun k _ hn => RowKit.Below.heap_setCell _ _ _ _ hn⟩
theorem Off.cell {blk : Nat} {W W' : World} (h : Off blk W W') {p : Addr} (hp : p.block < W.heap.size) (hn : p.block ≠ blk) : W'.cell? p = W.cell? p := World.cell?_of_block (w := W) (h.block p.block hp hn)
theorem Off.frozen {blk : Nat} {W W' : World} (h : Off blk W W') {p : Addr} (hp : p.block < W.heap.size) (hn : p.block ≠ blk) : W'.frozen? p = W.frozen? p := World.frozen?_of_block (w := W) (h.block p.block hp hn)

/-- From W0 on: all but the row's block stays, the row holds d. -/
structure St (enc : α → Value) (W0 : World) (blk off : Nat) (d : Array α) (W : World) : Prop where
  ap : Off blk W0 W
  row : W.heap[blk]? = (putRow enc W0 blk off d).heap[blk]?

theorem onCells_comp (f g : Array Value → Array Value) (o : Obj) : onCells g (onCells f o) = onCells (fun c => g (f c)) o := by cases o <;> rfl
theorem heap_mapBlock (w : World) (blk : Nat) (f : Array Value → Array Value) : (mapBlock w blk f).heap[blk]? = (w.heap[blk]?).map (onCells f) := by
  simp [mapBlock, Array.getElem?_modify]
theorem heap_putRow (enc : α → Value) (w w' : World) (blk off : Nat) (d : Array α) (h : w.heap[blk]? = w'.heap[blk]?) : (putRow enc w blk off d).heap[blk]? = (putRow enc w' blk off d).heap[blk]? := by
  unfold putRow; rw [heap_mapBlock, heap_mapBlock, h]
theorem heap_set2 (w w' : World) (blk o1 o2 : Nat) (v1 v2 : Value) (h : w.heap[blk]? = w'.heap[blk]?) :
    ((w.setCell ⟨blk, o1, none⟩ v1).setCell ⟨blk, o2, none⟩ v2).heap[blk]? = ((w'.setCell ⟨blk, o1, none⟩ v1).setCell ⟨blk, o2, none⟩ v2).heap[blk]? := by
  rw [setCell_eq, setCell_eq, setCell_eq, setCell_eq, mapBlock_mapBlock, mapBlock_mapBlock, heap_mapBlock, heap_mapBlock, h]
theorem holds_of_heap {enc : α → Value} {w w' : World} {blk off : Nat} {d : Array α} (h : w'.heap[blk]? = w.heap[blk]?) (hH : Holds enc w blk off d) : Holds enc w' blk off d := fun j hj =>
  ⟨(World.cell?_of_block (w := w) (a := ⟨blk, off + j, none⟩) h).trans (hH j hj).1, (World.frozen?_of_block (w := w) (a := ⟨blk, off + j, none⟩) h).trans (hH j hj).2⟩

section
variable {enc : α → Value} {W0 W W' : World} {blk off : Nat} {d d' d0 : Array α}
theorem St.start (h : Holds enc W0 blk off d) : St enc W0 blk off d W0 := ⟨Off.refl _ _, by rw [putRow_self enc W0 blk off d h]⟩
theorem St.below (h : St enc W0 blk off d W) (hb : RowKit.Below W.heap.size W W') (hl : blk < W.heap.size) : St enc W0 blk off d W' :=
  ⟨h.ap.trans (Off.below hb), (hb.block blk hl).trans h.row⟩
theorem St.holds (h : St enc W0 blk off d W) (h0 : Holds enc W0 blk off d0) (hs : d.size = d0.size) : Holds enc W blk off d :=
  holds_of_heap h.row (holds_putRow enc W0 blk off d0 d h0 hs)
theorem St.swap (h : St enc W0 blk off d W) (i j : Nat) (hi : i < d.size) (hj : j < d.size) :
    St enc W0 blk off (swp d i j) ((W.setCell ⟨blk, off + i, none⟩ (enc d[j]!)).setCell ⟨blk, off + j, none⟩ (enc d[i]!)) :=
  ⟨(h.ap.trans (Off.set _ _ _ _)).trans (Off.set _ _ _ _), by rw [heap_set2 W (putRow enc W0 blk off d) blk _ _ _ _ h.row, putRow_swp enc W0 blk off d i j hi hj]⟩
theorem St.then (h : St enc W0 blk off d W) (k : St enc W blk off d' W') (hs : d'.size = d.size) : St enc W0 blk off d' W' :=
  ⟨h.ap.trans k.ap, by rw [k.row, heap_putRow enc W (putRow enc W0 blk off d) blk off d' h.row, putRow_putRow enc W0 blk off d d' hs]⟩
/-- What a contract of the kit ends in. -/
theorem St.of_sortWorld (h : blk < W0.heap.size) (hw : ∃ n os, W = sortWorld enc W0 blk off n d os) : St enc W0 blk off d W := by
  obtain ⟨n, os, rfl⟩ := hw
  have hl : (putRow enc (Sort.ahead W0 n) blk off d).heap.size = W0.heap.size := by rw [Sort.size_putRow]; rfl
  refine ⟨⟨rfl, rfl, rfl, ?_, fun k hk hn => ?_⟩, ?_⟩
  · unfold sortWorld; rw [size_grow, hl]; exact Nat.le_add_right _ _
  · unfold sortWorld
    rw [heap_grow_old _ _ (by rw [hl]; exact hk)]
    unfold putRow mapBlock
    simp only [Array.getElem?_modify]
    rw [if_neg (fun e => hn e.symm)]; rfl
  · unfold sortWorld
    rw [heap_grow_old _ _ (by rw [hl]; exact h)]
    rfl
end

/-- What is asked of `less`: at each world of the sort it hands back lt, and may make memory of its own. -/
def LessOwn (P : Program) (g : Nat) (lb : Array Value) (enc : α → Value) (lt : α → α → Bool) (blk off n : Nat) (W0 : World) : Prop :=
  ∀ (W : World) (d : Array α), St enc W0 blk off d W → d.size = n → ∀ i j : Nat, i < n → j < n →
    Calls P g (#[.int .i64 i, .int .i64 j] ++ lb) W fun e w' => e = .returned (.bool (lt d[i]! d[j]!)) ∧ RowKit.Below W.heap.size W w'

/-- All that a function of the sort is given at its world. -/
structure En (P : Program) (enc : α → Value) (lt : α → α → Bool) (g : Nat) (lb : Array Value) (sf : Nat) (sb : Array Value) (blk off n : Nat) (d : Array α) (W0 : World) : Prop where
  eg : ∀ args w, (callFunc g args).run P w = .ok (.enter g args) w
  less : LessOwn P g lb enc lt blk off n W0
  swap : SwapSwaps P sf sb enc blk off n
  hd : d.size = n
  hH : Holds enc W0 blk off d
  hblk : blk < W0.heap.size
  hsz : n < 4611686018427387904

/-- A function's state: its own box (block B) and the row. -/
structure Sx (enc : α → Value) (blk off n : Nat) (x y : Value) (B : Nat) (W0 : World) (d : Array α) (W : World) : Prop where
  st : St enc W0 blk off d W
  hd : d.size = n
  c0 : W.cell? ⟨B, 0, none⟩ = some x
  c1 : W.cell? ⟨B, 1, none⟩ = some y
  lt : B < W.heap.size
  blt : blk < W.heap.size
  ne : B ≠ blk

section
variable {enc : α → Value} {lt : α → α → Bool} {g : Nat} {lb : Array Value} {sf : Nat} {sb : Array Value} {W0 W W' : World} {blk off n B : Nat} {x y : Value} {d d' d0 : Array α}

theorem Sx.to {W0 : World} (h : Sx enc blk off n x y B W0 d W) (hs : St enc W blk off d' W') (hd : d'.size = n) : Sx enc blk off n x y B W0 d' W' :=
  ⟨h.st.then hs (hd.trans h.hd.symm), hd, by rw [hs.ap.cell (p := ⟨B, 0, none⟩) h.lt h.ne]; exact h.c0, by rw [hs.ap.cell (p := ⟨B, 1, none⟩) h.lt h.ne]; exact h.c1,
    Nat.lt_of_lt_of_le h.lt hs.ap.size, Nat.lt_of_lt_of_le h.blt hs.ap.size, h.ne⟩
theorem En.holds (E : En P enc lt g lb sf sb blk off n d0 W0) (h : Sx enc blk off n x y B W0 d W) : Holds enc W blk off d := h.st.holds E.hH (h.hd.trans E.hd.symm)
/-- The environment at a later world. -/
theorem En.at (E : En P enc lt g lb sf sb blk off n d0 W0) (h : Sx enc blk off n x y B W0 d W) : En P enc lt g lb sf sb blk off n d W :=
  ⟨E.eg, fun W1 d1 h1 e1 i j hi hj => E.less W1 d1 (h.st.then h1 (e1.trans h.hd.symm)) e1 i j hi hj, E.swap, h.hd, E.holds h, h.blt, E.hsz⟩
/-- `less` in a function's walk. -/
theorem En.lessAt (E : En P enc lt g lb sf sb blk off n d0 W0) (h : Sx enc blk off n x y B W0 d W) (i j : Nat) (zi zj : Int) (hi : i < n) (hj : j < n) (ei : zi = i) (ej : zj = j) (v : Bool) (hv : lt d[i]! d[j]! = v) :
    Calls P g (#[.int .i64 zi, .int .i64 zj] ++ lb) W fun e w' => e = .returned (.bool v) ∧ Sx enc blk off n x y B W0 d w' := by
  subst ei ej
  refine (E.less W d h.st h.hd i j hi hj).mono ?_
  rintro e w' ⟨he, hb⟩
  exact ⟨hv ▸ he, h.to ⟨Off.below hb, by rw [hb.block blk h.blt, putRow_self enc W blk off d (E.holds h)]⟩ h.hd⟩
/-- `swap` in a function's walk: the world behind it is a name. -/
theorem En.swapAt (E : En P enc lt g lb sf sb blk off n d0 W0) (h : Sx enc blk off n x y B W0 d W) (i j : Nat) (zi zj : Int) (hi : i < n) (hj : j < n) (ei : zi = i) (ej : zj = j) :
    ∃ W2, (callFunc sf (#[.int .i64 zi, .int .i64 zj] ++ sb)).run P W = .ok (.value (.tuple #[])) W2 ∧ Sx enc blk off n x y B W0 (swp d i j) W2 := by
  subst ei ej
  refine ⟨_, E.swap W d (E.holds h) h.hd i j hi hj, h.to ((St.start (E.holds h)).swap i j (by rw [h.hd]; exact hi) (by rw [h.hd]; exact hj)) (by rw [size_swp]; exact h.hd)⟩
/-- The box laid. -/
theorem En.box (E : En P enc lt g lb sf sb blk off n d W0) (x y : Value) (t : TypeId) : Sx enc blk off n x y W0.heap.size W0 d (W0.alloc (.cells #[x, y] t)) :=
  ⟨⟨Off.below ((RowKit.Below.refl _ _).alloc (Nat.le_refl _) _), by rw [RowKit.Below.heap_alloc _ _ _ E.hblk, putRow_self enc W0 blk off d E.hH]⟩, E.hd, by simp, by simp, by simp, by have := E.hblk; simp; omega, by have := E.hblk; omega⟩
end

/-! sort.Slice with a `less` that makes memory: insertionSort_func, siftDown_func, heapSort_func. -/
section
open Go.Shelf Go.RowKit Go.Lib Go.Sort
set_option linter.unusedVariables false
variable {P : Program} {ρ : Ren} {α : Type} [Inhabited α] {enc : α → Value} {lt : α → α → Bool} {g : Nat} {lb : Array Value} {sf : Nat} {sb : Array Value} {blk off n : Nat} {d : Array α} {w : World}

set_option maxHeartbeats 2000000 in
set_option maxRecDepth 1000000 in
theorem so_ins (L : LaysGg.n26 P ρ) (E : En P enc lt g lb sf sb blk off n d w) (a b : Nat) (hab : a ≤ b) (hb : b ≤ n) :
    Calls P (ρ.f 26) #[.agg #[.func (.func g) #[] lb, .func (.func sf) #[] sb], .int .i64 a, .int .i64 b] w fun e w' => e = .returned (.tuple #[]) ∧ St enc w blk off (Sort.insertionSort lt d a b) w' := by
  have mixed := L.mixed; have t0 := L.t0; have a0 := L.a0; have z0 := L.z0; have v0 := L.v0; have t3 := L.t3; have a3 := L.a3; have z3 := L.z3; have v3 := L.v3; have t4 := L.t4; have a4 := L.a4; have z4 := L.z4; have v4 := L.v4; have t26 := L.t26; have a26 := L.a26; have z26 := L.z26; have v26 := L.v26; have t37 := L.t37; have a37 := L.a37; have z37 := L.z37; have v37 := L.v37; have t44 := L.t44; have a44 := L.a44; have z44 := L.z44; have v44 := L.v44
  have u44 := run_underlying L.t44
  have eg := E.eg
  have hsz := E.hsz
  have S0 := E.box (.func (.func g) #[] lb) (.func (.func sf) #[] sb) (ρ.t 44)
  go_enter L.f26, BodyGg.n26_ntmps ρ
  go_wp2
  go_loopg [6] (b - a) (fun k vi wr => ∃ (i : Nat) (dk : Array α), vi = .int .i64 i ∧ a < i ∧ i ≤ b + 1 ∧ b - i ≤ k ∧ Sx enc blk off n (.func (.func g) #[] lb) (.func (.func sf) #[] sb) w.heap.size w dk wr ∧ Hid (insOuter lt a b i dk = insOuter lt a b (a + 1) d))
  case atStart => exact ⟨a + 1, d, by go_num, by omega, by omega, by omega, S0, rfl⟩
  case round =>
    obtain ⟨i, dk, rfl, hai, hib, hk, S, HO⟩ := hrel
    by_cases hlt : i < b
    · have hz : (i : Int) < (b : Int) := by omega
      go_wp2
      go_loopg [7] (i - a) (fun k vj wr2 => ∃ (j : Nat) (dj : Array α), vj = .int .i64 j ∧ a ≤ j ∧ j ≤ i ∧ j - a ≤ k ∧ Sx enc blk off n (.func (.func g) #[] lb) (.func (.func sf) #[] sb) w.heap.size w dj wr2 ∧ Hid (insInner lt a j dj = insInner lt a i dk))
      case atStart => exact ⟨i, dk, rfl, by omega, Nat.le_refl _, Nat.le_refl _, S, rfl⟩
      case round =>
        clear S S0
        obtain ⟨j, dj, rfl, haj, hji, hk2, S, HI⟩ := hrel
        have c0 := S.c0
        by_cases hja : a < j
        · have hjz : (a : Int) < (j : Int) := by omega
          cases hlv : lt dj[j]! dj[j - 1]! with
          | true =>
            have hl := E.lessAt S j (j - 1) (j : Int) ((j : Int) - 1) (by omega) (by omega) rfl (by omega) true hlv
            go_wp2_with (go_at_fn g; refine hl.mono ?_; rintro e w1 ⟨rfl, S1⟩; have c10 := S1.c0; have c11 := S1.c1; obtain ⟨w2, hs, S2⟩ := E.swapAt S1 j (j - 1) (j : Int) ((j : Int) - 1) (by omega) (by omega) rfl (by omega))
            go_roundg (j - 1 - a)
            case measure => omega
            case rel => exact ⟨j - 1, swp dj j (j - 1), by congr 1; omega, by omega, by omega, Nat.le_refl _, S2, (show Hid _ from by rw [← HI.out, insInner_go lt a j dj hja hlv]; exact rfl)⟩
          | false =>
            have hl := E.lessAt S j (j - 1) (j : Int) ((j : Int) - 1) (by omega) (by omega) rfl (by omega) false hlv
            go_wp2_with (go_at_fn g; refine hl.mono ?_; rintro e w1 ⟨rfl, S1⟩)
            go_roundg (b - (i + 1))
            case measure => omega
            case rel => exact ⟨i + 1, dj, by go_num, by omega, by omega, Nat.le_refl _, S1, (show Hid _ from by rw [← HO.out, insOuter_go _ _ _ _ _ hlt, ← HI.out, insInner_stop _ _ _ _ (Or.inr hlv)]; exact rfl)⟩
        · have hjz : ¬ (a : Int) < (j : Int) := by omega
          go_wp2
          go_roundg (b - (i + 1))
          case measure => omega
          case rel => exact ⟨i + 1, dj, by go_num, by omega, by omega, Nat.le_refl _, S, (show Hid _ from by rw [← HO.out, insOuter_go _ _ _ _ _ hlt, ← HI.out, insInner_stop _ _ _ _ (Or.inl (by omega))]; exact rfl)⟩
    · have hz : ¬ (i : Int) < (b : Int) := by omega
      go_wp2
      go_end0
      exact ⟨rfl, by unfold Sort.insertionSort; rw [← HO.out, insOuter_stop _ _ _ _ _ hlt]; exact S.st⟩

set_option maxHeartbeats 4000000 in
set_option maxRecDepth 1000000 in
theorem so_sift (L : LaysGg.n34 P ρ) (E : En P enc lt g lb sf sb blk off n d w) (lo hi first : Nat) (hlo : lo ≤ hi) (hb : first + hi ≤ n) :
    Calls P (ρ.f 34) #[.agg #[.func (.func g) #[] lb, .func (.func sf) #[] sb], .int .i64 lo, .int .i64 hi, .int .i64 first] w fun e w' => e = .returned (.tuple #[]) ∧ St enc w blk off (siftDown lt hi first lo d) w' := by
  have mixed := L.mixed; have t0 := L.t0; have a0 := L.a0; have z0 := L.z0; have v0 := L.v0; have t3 := L.t3; have a3 := L.a3; have z3 := L.z3; have v3 := L.v3; have t4 := L.t4; have a4 := L.a4; have z4 := L.z4; have v4 := L.v4; have t26 := L.t26; have a26 := L.a26; have z26 := L.z26; have v26 := L.v26; have t37 := L.t37; have a37 := L.a37; have z37 := L.z37; have v37 := L.v37; have t44 := L.t44; have a44 := L.a44; have z44 := L.z44; have v44 := L.v44
  have u44 := run_underlying L.t44
  have eg := E.eg
  have hsz := E.hsz
  have S0 := E.box (.func (.func g) #[] lb) (.func (.func sf) #[] sb) (ρ.t 44)
  go_enter L.f34, BodyGg.n34_ntmps ρ
  go_wp2
  go_loopg [8] (hi - lo) (fun k s8 wr => ∃ (root : Nat) (dk : Array α), s8 = .int .i64 root ∧ root ≤ hi ∧ hi - root ≤ k ∧ Sx enc blk off n (.func (.func g) #[] lb) (.func (.func sf) #[] sb) w.heap.size w dk wr ∧ Hid (siftDown lt hi first root dk = siftDown lt hi first lo d))
  case atStart => exact ⟨lo, d, rfl, hlo, Nat.le_refl _, S0, rfl⟩
  case round =>
    clear S0
    obtain ⟨root, dk, rfl, hr, hk, S, HE⟩ := hrel
    have c0 := S.c0
    by_cases h0 : hi ≤ 2 * root + 1
    · have h0z : (hi : Int) ≤ 2 * (root : Int) + 1 := by omega
      go_wp2
      go_end0
      exact ⟨rfl, by rw [← HE.out, sd_end lt dk h0]; exact S.st⟩
    · have h0z : ¬ ((hi : Int) ≤ 2 * (root : Int) + 1) := by omega
      by_cases h1 : 2 * root + 2 < hi
      · have h1z : 2 * (root : Int) + 1 + 1 < (hi : Int) := by omega
        cases hL : lt dk[first + (2 * root + 1)]! dk[first + (2 * root + 2)]! with
        | true =>
          have hl1 := E.lessAt S (first + (2 * root + 1)) (first + (2 * root + 2)) ((first : Int) + (2 * (root : Int) + 1)) ((first : Int) + (2 * (root : Int) + 1) + 1) (by omega) (by omega) (by omega) (by omega) true hL
          cases hG : lt dk[first + root]! dk[first + (2 * root + 2)]! with
          | true =>
            go_wp2_with (first
              | (go_at_fn g; refine hl2.mono ?_; rintro e w2 ⟨rfl, S2⟩; have c20 := S2.c0; have c21 := S2.c1; obtain ⟨w3, hs, S3⟩ := E.swapAt S2 (first + root) (first + (2 * root + 2)) ((first : Int) + (root : Int)) ((first : Int) + (2 * (root : Int) + 1 + 1)) (by omega) (by omega) (by omega) (by omega))
              | (go_at_fn g; refine hl1.mono ?_; rintro e w1 ⟨rfl, S1⟩; have c10 := S1.c0; have hl2 := E.lessAt S1 (first + root) (first + (2 * root + 2)) ((first : Int) + (root : Int)) ((first : Int) + (2 * (root : Int) + 1 + 1)) (by omega) (by omega) (by omega) (by omega) true hG))
            go_roundg (hi - (2 * root + 2))
            case measure => omega
            case rel => exact ⟨2 * root + 2, swp dk (first + root) (first + (2 * root + 2)), by go_num, by omega, Nat.le_refl _, S3, (show Hid _ from by rw [← HE.out, sd_right_go lt dk h1 hL hG]; exact rfl)⟩
          | false =>
            go_wp2_with (first
              | (go_at_fn g; refine hl2.mono ?_; rintro e w2 ⟨rfl, S2⟩)
              | (go_at_fn g; refine hl1.mono ?_; rintro e w1 ⟨rfl, S1⟩; have c10 := S1.c0; have hl2 := E.lessAt S1 (first + root) (first + (2 * root + 2)) ((first : Int) + (root : Int)) ((first : Int) + (2 * (root : Int) + 1 + 1)) (by omega) (by omega) (by omega) (by omega) false hG))
            (try simp only [Exit.inBlock, Exit.then]); refine bodyPost_ret (results_none rfl _ _ _) rfl ?_
            exact ⟨rfl, by rw [← HE.out, sd_right_stop lt dk h1 hL hG]; exact S2.st⟩
        | false =>
          have hl1 := E.lessAt S (first + (2 * root + 1)) (first + (2 * root + 2)) ((first : Int) + (2 * (root : Int) + 1)) ((first : Int) + (2 * (root : Int) + 1) + 1) (by omega) (by omega) (by omega) (by omega) false hL
          cases hG : lt dk[first + root]! dk[first + (2 * root + 1)]! with
          | true =>
            go_wp2_with (first
              | (go_at_fn g; refine hl2.mono ?_; rintro e w2 ⟨rfl, S2⟩; have c20 := S2.c0; have c21 := S2.c1; obtain ⟨w3, hs, S3⟩ := E.swapAt S2 (first + root) (first + (2 * root + 1)) ((first : Int) + (root : Int)) ((first : Int) + (2 * (root : Int) + 1)) (by omega) (by omega) (by omega) (by omega))
              | (go_at_fn g; refine hl1.mono ?_; rintro e w1 ⟨rfl, S1⟩; have c10 := S1.c0; have hl2 := E.lessAt S1 (first + root) (first + (2 * root + 1)) ((first : Int) + (root : Int)) ((first : Int) + (2 * (root : Int) + 1)) (by omega) (by omega) (by omega) (by omega) true hG))
            go_roundg (hi - (2 * root + 1))
            case measure => omega
            case rel => exact ⟨2 * root + 1, swp dk (first + root) (first + (2 * root + 1)), by go_num, by omega, Nat.le_refl _, S3, (show Hid _ from by rw [← HE.out, sd_left_go lt dk (by omega) (fun _ => hL) hG]; exact rfl)⟩
          | false =>
            go_wp2_with (first
              | (go_at_fn g; refine hl2.mono ?_; rintro e w2 ⟨rfl, S2⟩)
              | (go_at_fn g; refine hl1.mono ?_; rintro e w1 ⟨rfl, S1⟩; have c10 := S1.c0; have hl2 := E.lessAt S1 (first + root) (first + (2 * root + 1)) ((first : Int) + (root : Int)) ((first : Int) + (2 * (root : Int) + 1)) (by omega) (by omega) (by omega) (by omega) false hG))
            (try simp only [Exit.inBlock, Exit.then]); refine bodyPost_ret (results_none rfl _ _ _) rfl ?_
            exact ⟨rfl, by rw [← HE.out, sd_left_stop lt dk (by omega) (fun _ => hL) hG]; exact S2.st⟩
      · have h1z : ¬ (2 * (root : Int) + 1 + 1 < (hi : Int)) := by omega
        cases hG : lt dk[first + root]! dk[first + (2 * root + 1)]! with
        | true =>
          have hl2 := E.lessAt S (first + root) (first + (2 * root + 1)) ((first : Int) + (root : Int)) ((first : Int) + (2 * (root : Int) + 1)) (by omega) (by omega) (by omega) (by omega) true hG
          go_wp2_with (go_at_fn g; refine hl2.mono ?_; rintro e w2 ⟨rfl, S2⟩; have c20 := S2.c0; have c21 := S2.c1; obtain ⟨w3, hs, S3⟩ := E.swapAt S2 (first + root) (first + (2 * root + 1)) ((first : Int) + (root : Int)) ((first : Int) + (2 * (root : Int) + 1)) (by omega) (by omega) (by omega) (by omega))
          go_roundg (hi - (2 * root + 1))
          case measure => omega
          case rel => exact ⟨2 * root + 1, swp dk (first + root) (first + (2 * root + 1)), by go_num, by omega, Nat.le_refl _, S3, (show Hid _ from by rw [← HE.out, sd_left_go lt dk (by omega) (fun h => absurd h h1) hG]; exact rfl)⟩
        | false =>
          have hl2 := E.lessAt S (first + root) (first + (2 * root + 1)) ((first : Int) + (root : Int)) ((first : Int) + (2 * (root : Int) + 1)) (by omega) (by omega) (by omega) (by omega) false hG
          go_wp2_with (go_at_fn g; refine hl2.mono ?_; rintro e w2 ⟨rfl, S2⟩)
          (try simp only [Exit.inBlock, Exit.then]); refine bodyPost_ret (results_none rfl _ _ _) rfl ?_
          exact ⟨rfl, by rw [← HE.out, sd_left_stop lt dk (by omega) (fun h => absurd h h1) hG]; exact S2.st⟩

set_option maxHeartbeats 4000000 in
set_option maxRecDepth 1000000 in
theorem so_heap (L : LaysGg.n27 P ρ) (E : En P enc lt g lb sf sb blk off n d w) (a b : Nat) (hab : a ≤ b) (hb : b ≤ n) :
    Calls P (ρ.f 27) #[.agg #[.func (.func g) #[] lb, .func (.func sf) #[] sb], .int .i64 a, .int .i64 b] w fun e w' => e = .returned (.tuple #[]) ∧ St enc w blk off (heapSort lt d a b) w' := by
  have mixed := L.mixed; have t0 := L.t0; have a0 := L.a0; have z0 := L.z0; have v0 := L.v0; have t3 := L.t3; have a3 := L.a3; have z3 := L.z3; have v3 := L.v3; have t4 := L.t4; have a4 := L.a4; have z4 := L.z4; have v4 := L.v4; have t26 := L.t26; have a26 := L.a26; have z26 := L.z26; have v26 := L.v26; have t37 := L.t37; have a37 := L.a37; have z37 := L.z37; have v37 := L.v37; have t44 := L.t44; have a44 := L.a44; have z44 := L.z44; have v44 := L.v44
  have u44 := run_underlying L.t44
  have e34 : ∀ args w, (callFunc (ρ.f 34) args).run P w = .ok (.enter (ρ.f 34) args) w := enters_of L.f34 (by kernel_rfl) rfl
  have ecast : ((b - a : Nat) : Int) = (b : Int) - (a : Int) := by omega
  have hsz := E.hsz
  have S0 := E.box (.func (.func g) #[] lb) (.func (.func sf) #[] sb) (ρ.t 44)
  go_enter L.f27, BodyGg.n27_ntmps ρ
  go_wp2
  go_loopg [9] ((b - a - 1) / 2 + 1) (fun k s9 wr => s9 = .int .i64 ((k : Int) - 1) ∧ k ≤ (b - a - 1) / 2 + 1 ∧ ∃ (dk : Array α), Sx enc blk off n (.func (.func g) #[] lb) (.func (.func sf) #[] sb) w.heap.size w dk wr ∧
    Hid (heapBuild lt (b - a) a k dk = heapBuild lt (b - a) a ((b - a - 1) / 2 + 1) d))
  case atStart => exact ⟨by rw [half_start hab], Nat.le_refl _, d, S0, rfl⟩
  case round =>
    clear S0
    obtain ⟨rfl, hkk, dk, S, HE⟩ := hrel
    have c0 := S.c0
    have c1 := S.c1
    cases gk with
    | zero =>
      have HB : Hid (dk = heapBuild lt (b - a) a ((b - a - 1) / 2 + 1) d) := HE.out
      clear HE hkk
      go_wp2
      go_loopg [10] (b - a) (fun k s10 wr2 => s10 = .int .i64 ((k : Int) - 1) ∧ k ≤ b - a ∧ ∃ (dj : Array α), Sx enc blk off n (.func (.func g) #[] lb) (.func (.func sf) #[] sb) w.heap.size w dj wr2 ∧ Hid (heapPop lt a k dj = heapPop lt a (b - a) dk))
      case atStart => exact ⟨by rw [ecast], Nat.le_refl _, dk, S, rfl⟩
      case round =>
        clear S c0 c1
        obtain ⟨rfl, hkk, dj, S, HE2⟩ := hrel
        have c0 := S.c0
        have c1 := S.c1
        cases gk with
        | zero =>
          go_wp2
          go_end0
          have e : dj = heapSort lt d a b := by rw [heapSort, ← HB.out, ← HE2.out]; rfl
          rw [← e]
          exact ⟨rfl, S.st⟩
        | succ k =>
          obtain ⟨w2, hs, S2⟩ := E.swapAt S a (a + k) (a : Int) ((a : Int) + (k : Int)) (by omega) (by omega) rfl (by omega)
          have c20 := S2.c0
          have c21 := S2.c1
          have hcall := so_sift (P := P) (ρ := ρ) { L with } (E.at S2) 0 k a (Nat.zero_le _) (by omega)
          go_wp2_with (go_at_fn (ρ.f 34); refine hcall.mono ?_; rintro e w3 ⟨rfl, T3⟩)
          go_roundg k
          case measure => omega
          case rel =>
            have hss : (siftDown lt k a 0 (swp dj a (a + k))).size = (swp dj a (a + k)).size := size_siftDown lt _ _ _ _ _ (Nat.le_refl _)
            exact ⟨by simp, by omega, siftDown lt k a 0 (swp dj a (a + k)), S2.to T3 (hss.trans S2.hd), HE2⟩
    | succ k =>
      have hcall := so_sift (P := P) (ρ := ρ) { L with } (E.at S) k (b - a) a (by omega) (by omega)
      rw [ecast] at hcall
      go_wp2_with (go_at_fn (ρ.f 34); refine hcall.mono ?_; rintro e w3 ⟨rfl, T3⟩)
      go_roundg k
      case measure => omega
      case rel =>
        have hss : (siftDown lt (b - a) a k dk).size = dk.size := size_siftDown lt _ _ _ _ _ (Nat.le_refl _)
        exact ⟨by simp, by omega, siftDown lt (b - a) a k dk, S.to T3 (hss.trans S.hd), HE⟩
end

/-! sort.Slice with a `less` that makes memory: order2_func, median_func, medianAdjacent_func, choosePivot_func. -/
section
open Go.Shelf Go.RowKit Go.Lib Go.Sort
set_option linter.unusedVariables false
variable {P : Program} {ρ : Ren} {α : Type} [Inhabited α] {enc : α → Value} {lt : α → α → Bool} {g : Nat} {lb : Array Value} {sf : Nat} {sb : Array Value} {blk off n : Nat} {d : Array α} {w : World}

/-- A counter (one cell of block cb) stands at t; all else stays. -/
structure Ct (cb t : Nat) (W W' : World) : Prop where
  ap : Off cb W W'
  c : W'.cell? ⟨cb, 0, none⟩ = some (.int .i64 t)
  f : W'.frozen? ⟨cb, 0, none⟩ = false
theorem Ct.then {cb t s : Nat} {W W1 W2 : World} (h : Ct cb s W W1) (k : Ct cb t W1 W2) : Ct cb t W W2 := ⟨h.ap.trans k.ap, k.c, k.f⟩
theorem Ct.cell {cb t : Nat} {W W' : World} (h : Ct cb t W W') {b o : Nat} {v : Value} (hc : W.cell? ⟨b, o, none⟩ = some v) (hb : b < W.heap.size) (hn : b ≠ cb) : W'.cell? ⟨b, o, none⟩ = some v :=
  (h.ap.cell (p := ⟨b, o, none⟩) hb hn).trans hc

/-- A world of the sort in which a counter lies, in a block that is new against the base world. -/
structure Sy (enc : α → Value) (blk off n cb s : Nat) (W0 : World) (d : Array α) (W : World) : Prop where
  st : St enc W0 blk off d W
  hd : d.size = n
  c : W.cell? ⟨cb, 0, none⟩ = some (.int .i64 s)
  f : W.frozen? ⟨cb, 0, none⟩ = false
  old : W0.heap.size ≤ cb
  lt : cb < W.heap.size
  blt : blk < W0.heap.size
theorem Sy.ct {cb s t : Nat} {W0 W W' : World} (h : Sy enc blk off n cb s W0 d W) (k : Ct cb t W W') : Sy enc blk off n cb t W0 d W' := by
  have hb := h.blt; have ho := h.old; have hl := h.lt
  refine ⟨⟨⟨k.ap.os.trans h.st.ap.os, k.ap.tape.trans h.st.ap.tape, k.ap.output.trans h.st.ap.output, Nat.le_trans h.st.ap.size k.ap.size, fun i hi hn => ?_⟩, ?_⟩, h.hd, k.c, k.f, h.old, Nat.lt_of_lt_of_le h.lt k.ap.size, h.blt⟩
  · rw [k.ap.block i (by omega) (by omega)]; exact h.st.ap.block i hi hn
  · rw [k.ap.block blk (by omega) (by omega)]; exact h.st.row
theorem Sy.below {cb s : Nat} {W0 W W' : World} (h : Sy enc blk off n cb s W0 d W) (k : RowKit.Below W.heap.size W W') : Ct cb s W W' :=
  ⟨Off.below k, (k.cell (p := ⟨cb, 0, none⟩) h.lt).trans h.c, (k.frozen (p := ⟨cb, 0, none⟩) h.lt).trans h.f⟩
/-- The box of a function that is called with the counter. -/
theorem Sy.box {cb s : Nat} {W0 W : World} (h : Sy enc blk off n cb s W0 d W) (x y : Value) (t : TypeId) :
    Ct cb s W (W.alloc (.cells #[x, y] t)) ∧ (W.alloc (.cells #[x, y] t)).cell? ⟨W.heap.size, 0, none⟩ = some x ∧ (W.alloc (.cells #[x, y] t)).cell? ⟨W.heap.size, 1, none⟩ = some y ∧ W.heap.size < (W.alloc (.cells #[x, y] t)).heap.size :=
  ⟨h.below ((RowKit.Below.refl _ _).alloc (Nat.le_refl _) _), by simp, by simp, by simp⟩

set_option maxHeartbeats 2000000 in
set_option maxRecDepth 1000000 in
theorem so_order2 (L : LaysGg.n39 P ρ) {W : World} {cb s : Nat} (E : En P enc lt g lb sf sb blk off n d w) (Y : Sy enc blk off n cb s w d W) (a b : Nat) (ha : a < n) (hb : b < n) (hs : s < 4611686018427387904) :
    Calls P (ρ.f 39) #[.agg #[.func (.func g) #[] lb, .func (.func sf) #[] sb], .int .i64 a, .int .i64 b, .pointer (some ⟨cb, 0, none⟩)] W fun e w' =>
      e = .returned (.tuple #[.int .i64 (order2 lt d a b s).1, .int .i64 (order2 lt d a b s).2.1]) ∧ Ct cb (order2 lt d a b s).2.2 W w' := by
  have mixed := L.mixed; have t0 := L.t0; have a0 := L.a0; have z0 := L.z0; have v0 := L.v0; have t3 := L.t3; have a3 := L.a3; have z3 := L.z3; have v3 := L.v3; have t4 := L.t4; have a4 := L.a4; have z4 := L.z4; have v4 := L.v4; have t26 := L.t26; have a26 := L.a26; have z26 := L.z26; have v26 := L.v26; have t37 := L.t37; have a37 := L.a37; have z37 := L.z37; have v37 := L.v37; have t44 := L.t44; have a44 := L.a44; have z44 := L.z44; have v44 := L.v44; have t64 := L.t64; have a64 := L.a64; have z64 := L.z64; have v64 := L.v64
  have u44 := run_underlying L.t44
  have eg := E.eg
  have hsz := E.hsz
  obtain ⟨K1, -, -, l1⟩ := Y.box (.func (.func g) #[] lb) (.func (.func sf) #[] sb) (ρ.t 44)
  have Y1 := Y.ct K1
  have hl := E.less _ d Y1.st Y1.hd b a hb ha
  have lc := Y.lt
  cases hlv : lt d[b]! d[a]! with
  | true =>
    rw [hlv] at hl
    have e2 : order2 lt d a b s = (b, a, s + 1) := by simp [order2, hlv]
    rw [e2]
    go_enter L.f39, BodyGg.n39_ntmps ρ
    go_wp2_with (go_at_fn g; refine hl.mono ?_; rintro e w2 ⟨rfl, hb2⟩; have K2 := K1.then (Y1.below hb2); have cc := K2.c; have cf := K2.f)
    go_ret2
    exact ⟨rfl, K2.ap.trans (Off.set _ _ _ _), by rw [World.cell?_setCell_same _ _ _ cc]; simp, by simpa using cf⟩
  | false =>
    rw [hlv] at hl
    have e2 : order2 lt d a b s = (a, b, s) := by simp [order2, hlv]
    rw [e2]
    go_enter L.f39, BodyGg.n39_ntmps ρ
    go_wp2_with (go_at_fn g; refine hl.mono ?_; rintro e w2 ⟨rfl, hb2⟩; have K2 := K1.then (Y1.below hb2); have cc := K2.c; have cf := K2.f)
    go_ret2
    exact ⟨rfl, K2⟩

theorem o2_lt (lt : α → α → Bool) (d : Array α) {a b n : Nat} (s : Nat) (ha : a < n) (hb : b < n) : (order2 lt d a b s).1 < n ∧ (order2 lt d a b s).2.1 < n := by
  unfold order2; split <;> exact ⟨by assumption, by assumption⟩

set_option maxHeartbeats 2000000 in
set_option maxRecDepth 1000000 in
theorem so_median (L : LaysGg.n38 P ρ) {W : World} {cb s : Nat} (E : En P enc lt g lb sf sb blk off n d w) (Y : Sy enc blk off n cb s w d W) (a b c : Nat) (ha : a < n) (hb : b < n) (hc : c < n) (hs : s + 3 < 4611686018427387904) :
    Calls P (ρ.f 38) #[.agg #[.func (.func g) #[] lb, .func (.func sf) #[] sb], .int .i64 a, .int .i64 b, .int .i64 c, .pointer (some ⟨cb, 0, none⟩)] W fun e w' =>
      e = .returned (.int .i64 (median lt d a b c s).1) ∧ Ct cb (median lt d a b c s).2 W w' := by
  have mixed := L.mixed; have t0 := L.t0; have a0 := L.a0; have z0 := L.z0; have v0 := L.v0; have t3 := L.t3; have a3 := L.a3; have z3 := L.z3; have v3 := L.v3; have t4 := L.t4; have a4 := L.a4; have z4 := L.z4; have v4 := L.v4; have t26 := L.t26; have a26 := L.a26; have z26 := L.z26; have v26 := L.v26; have t37 := L.t37; have a37 := L.a37; have z37 := L.z37; have v37 := L.v37; have t44 := L.t44; have a44 := L.a44; have z44 := L.z44; have v44 := L.v44; have t64 := L.t64; have a64 := L.a64; have z64 := L.z64; have v64 := L.v64; have t67 := L.t67; have a67 := L.a67; have z67 := L.z67; have v67 := L.v67
  have u44 := run_underlying L.t44
  have e39 : ∀ args w, (callFunc (ρ.f 39) args).run P w = .ok (.enter (ρ.f 39) args) w := enters_of L.f39 (by kernel_rfl) rfl
  have hsz := E.hsz
  obtain ⟨K1, c10, c11, l1⟩ := Y.box (.func (.func g) #[] lb) (.func (.func sf) #[] sb) (ρ.t 44)
  have Y1 := Y.ct K1
  have ne : W.heap.size ≠ cb := by have := Y.lt; omega
  have C1 := so_order2 (P := P) (ρ := ρ) { L with } E Y1 a b ha hb (by omega)
  have q1 := o2_lt lt d s ha hb
  have k1 := order2_count lt d a b s
  obtain ⟨a1, b1, s1, h1⟩ : ∃ a1 b1 s1, order2 lt d a b s = (a1, b1, s1) := ⟨_, _, _, rfl⟩
  rw [h1] at C1 q1 k1
  dsimp only at C1 q1 k1
  have q2 := o2_lt lt d s1 q1.2 hc
  have k2 := order2_count lt d b1 c s1
  obtain ⟨b2, c2, s2, h2⟩ : ∃ b2 c2 s2, order2 lt d b1 c s1 = (b2, c2, s2) := ⟨_, _, _, rfl⟩
  rw [h2] at q2 k2
  dsimp only at q2 k2
  obtain ⟨a3, b3, s3, h3⟩ : ∃ a3 b3 s3, order2 lt d a1 b2 s2 = (a3, b3, s3) := ⟨_, _, _, rfl⟩
  have hm : median lt d a b c s = (b3, s3) := by simp only [median, h1, h2, h3]
  rw [hm]
  have H2 : Hid (∀ W2, Sy enc blk off n cb s1 w d W2 → Calls P (ρ.f 39) #[.agg #[.func (.func g) #[] lb, .func (.func sf) #[] sb], .int .i64 b1, .int .i64 c, .pointer (some ⟨cb, 0, none⟩)] W2 fun e w' => e = .returned (.tuple #[.int .i64 b2, .int .i64 c2]) ∧ Ct cb s2 W2 w') := fun W2 Y2 => by
    have := so_order2 (P := P) (ρ := ρ) { L with } E Y2 b1 c q1.2 hc (by omega)
    rw [h2] at this; exact this
  have H3 : Hid (∀ W2, Sy enc blk off n cb s2 w d W2 → Calls P (ρ.f 39) #[.agg #[.func (.func g) #[] lb, .func (.func sf) #[] sb], .int .i64 a1, .int .i64 b2, .pointer (some ⟨cb, 0, none⟩)] W2 fun e w' => e = .returned (.tuple #[.int .i64 a3, .int .i64 b3]) ∧ Ct cb s3 W2 w') := fun W2 Y2 => by
    have := so_order2 (P := P) (ρ := ρ) { L with } E Y2 a1 b2 q1.1 q2.1 (by omega)
    rw [h3] at this; exact this
  clear h1 h2 h3 hm
  go_enter L.f38, BodyGg.n38_ntmps ρ
  go_wp2_with (first
    | (go_at_fn (ρ.f 39); refine C3.mono ?_; rintro e w4 ⟨rfl, K4⟩)
    | (go_at_fn (ρ.f 39); refine C2.mono ?_; rintro e w3 ⟨rfl, K3⟩; have c30 := K3.cell c20 l2 ne; have c31 := K3.cell c21 l2 ne; have l3 := Nat.lt_of_lt_of_le l2 K3.ap.size; have Y3 := Y2.ct K3; have C3 := H3.out _ Y3)
    | (go_at_fn (ρ.f 39); refine C1.mono ?_; rintro e w2 ⟨rfl, K2⟩; have c20 := K2.cell c10 l1 ne; have c21 := K2.cell c11 l1 ne; have l2 := Nat.lt_of_lt_of_le l1 K2.ap.size; have Y2 := Y1.ct K2; have C2 := H2.out _ Y2))
  go_ret
  exact ⟨rfl, ((K1.then K2).then K3).then K4⟩

set_option maxHeartbeats 2000000 in
set_option maxRecDepth 1000000 in
theorem so_medAdj (L : LaysGg.n37 P ρ) {W : World} {cb s : Nat} (E : En P enc lt g lb sf sb blk off n d w) (Y : Sy enc blk off n cb s w d W) (a : Nat) (ha1 : 1 ≤ a) (ha2 : a + 1 < n) (hs : s + 3 < 4611686018427387904) :
    Calls P (ρ.f 37) #[.agg #[.func (.func g) #[] lb, .func (.func sf) #[] sb], .int .i64 a, .pointer (some ⟨cb, 0, none⟩)] W fun e w' =>
      e = .returned (.int .i64 (medianAdjacent lt d a s).1) ∧ Ct cb (medianAdjacent lt d a s).2 W w' := by
  have mixed := L.mixed; have t0 := L.t0; have a0 := L.a0; have z0 := L.z0; have v0 := L.v0; have t3 := L.t3; have a3 := L.a3; have z3 := L.z3; have v3 := L.v3; have t4 := L.t4; have a4 := L.a4; have z4 := L.z4; have v4 := L.v4; have t26 := L.t26; have a26 := L.a26; have z26 := L.z26; have v26 := L.v26; have t37 := L.t37; have a37 := L.a37; have z37 := L.z37; have v37 := L.v37; have t44 := L.t44; have a44 := L.a44; have z44 := L.z44; have v44 := L.v44; have t64 := L.t64; have a64 := L.a64; have z64 := L.z64; have v64 := L.v64; have t67 := L.t67; have a67 := L.a67; have z67 := L.z67; have v67 := L.v67
  have u44 := run_underlying L.t44
  have e38 : ∀ args w, (callFunc (ρ.f 38) args).run P w = .ok (.enter (ρ.f 38) args) w := enters_of L.f38 (by kernel_rfl) rfl
  have hsz := E.hsz
  obtain ⟨K1, c10, c11, l1⟩ := Y.box (.func (.func g) #[] lb) (.func (.func sf) #[] sb) (ρ.t 44)
  have C1 := so_median (P := P) (ρ := ρ) { L with } E (Y.ct K1) (a - 1) a (a + 1) (by omega) (by omega) ha2 hs
  rw [show ((a - 1 : Nat) : Int) = (a : Int) - 1 by omega, show ((a + 1 : Nat) : Int) = (a : Int) + 1 by omega] at C1
  go_enter L.f37, BodyGg.n37_ntmps ρ
  go_wp2_with (go_at_fn (ρ.f 38); refine C1.mono ?_; rintro e w2 ⟨rfl, K2⟩)
  go_ret
  exact ⟨rfl, K1.then K2⟩

set_option maxHeartbeats 4000000 in
set_option maxRecDepth 1000000 in
theorem so_pivot (L : LaysGg.n29 P ρ) (E : En P enc lt g lb sf sb blk off n d w) (a b : Nat) (hab : a < b) (hb : b ≤ n) :
    Calls P (ρ.f 29) #[.agg #[.func (.func g) #[] lb, .func (.func sf) #[] sb], .int .i64 a, .int .i64 b] w fun e w' =>
      e = .returned (.tuple #[.int .i64 (choosePivot lt d a b).1, .int .i64 (hintCode (choosePivot lt d a b).2)]) ∧ St enc w blk off d w' := by
  have mixed := L.mixed; have t0 := L.t0; have a0 := L.a0; have z0 := L.z0; have v0 := L.v0; have t3 := L.t3; have a3 := L.a3; have z3 := L.z3; have v3 := L.v3; have t4 := L.t4; have a4 := L.a4; have z4 := L.z4; have v4 := L.v4; have t26 := L.t26; have a26 := L.a26; have z26 := L.z26; have v26 := L.v26; have t37 := L.t37; have a37 := L.a37; have z37 := L.z37; have v37 := L.v37; have t44 := L.t44; have a44 := L.a44; have z44 := L.z44; have v44 := L.v44; have t53 := L.t53; have a53 := L.a53; have z53 := L.z53; have v53 := L.v53; have t64 := L.t64; have a64 := L.a64; have z64 := L.z64; have v64 := L.v64; have t67 := L.t67; have a67 := L.a67; have z67 := L.z67; have v67 := L.v67
  have u44 := run_underlying L.t44
  have e37 : ∀ args w, (callFunc (ρ.f 37) args).run P w = .ok (.enter (ρ.f 37) args) w := enters_of L.f37 (by kernel_rfl) rfl
  have e38 : ∀ args w, (callFunc (ρ.f 38) args).run P w = .ok (.enter (ρ.f 38) args) w := enters_of L.f38 (by kernel_rfl) rfl
  have hsz := E.hsz
  rw [choosePivot_eq]
  -- the world with the box and the counter
  obtain ⟨w2, hw2⟩ : ∃ w2, (w.alloc (.cells #[.func (.func g) #[] lb, .func (.func sf) #[] sb] (ρ.t 44))).alloc (.cells #[.int .i64 0] (ρ.t 3)) = w2 := ⟨_, rfl⟩
  have z1 : (w.alloc (.cells #[.func (.func g) #[] lb, .func (.func sf) #[] sb] (ρ.t 44))).heap.size = w.heap.size + 1 := by simp
  have Y2 : Sy enc blk off n (w.heap.size + 1) 0 w d w2 := by
    have b2 : RowKit.Below w.heap.size w w2 := by rw [← hw2]; exact ((RowKit.Below.refl _ _).alloc (Nat.le_refl _) _).alloc (by rw [z1]; omega) _
    have hbl := E.hblk
    refine ⟨⟨Off.below b2, by rw [b2.block blk hbl, putRow_self enc w blk off d E.hH]⟩, E.hd, ?_, ?_, by omega, by rw [← hw2]; simp, hbl⟩
    · rw [← hw2, World.cell?_alloc_at _ _ _ _ z1.symm]; rfl
    · rw [← hw2]; exact World.frozen?_alloc_at _ _ _ _ z1.symm
  have b20 : w2.cell? ⟨w.heap.size, 0, none⟩ = some (.func (.func g) #[] lb) := by rw [← hw2, World.cell?_alloc_past _ _ _ (by simp)]; simp
  have b21 : w2.cell? ⟨w.heap.size, 1, none⟩ = some (.func (.func sf) #[] sb) := by rw [← hw2, World.cell?_alloc_past _ _ _ (by simp)]; simp
  have l2 : w.heap.size < w2.heap.size := by rw [← hw2]; simp; omega
  have ne : w.heap.size ≠ w.heap.size + 1 := by omega
  obtain ⟨I, hI⟩ : ∃ I : Nat, I = a + (b - a) / 4 * 1 := ⟨_, rfl⟩
  obtain ⟨J, hJ⟩ : ∃ J : Nat, J = a + (b - a) / 4 * 2 := ⟨_, rfl⟩
  obtain ⟨K, hK⟩ : ∃ K : Nat, K = a + (b - a) / 4 * 3 := ⟨_, rfl⟩
  have eI : ((a : Int) + ((b : Int) - (a : Int)) / 4) = (I : Int) := by omega
  have eJ : ((a : Int) + ((b : Int) - (a : Int)) / 4 * 2) = (J : Int) := by omega
  have eK : ((a : Int) + ((b : Int) - (a : Int)) / 4 * 3) = (K : Int) := by omega
  by_cases h8 : b - a ≥ 8
  · by_cases h50 : b - a ≥ 50
    · obtain ⟨i1, s1, h1⟩ : ∃ i1 s1, medianAdjacent lt d I 0 = (i1, s1) := ⟨_, _, rfl⟩
      obtain ⟨j1, s2, h2⟩ : ∃ j1 s2, medianAdjacent lt d J s1 = (j1, s2) := ⟨_, _, rfl⟩
      obtain ⟨k1, s3, h3⟩ : ∃ k1 s3, medianAdjacent lt d K s2 = (k1, s3) := ⟨_, _, rfl⟩
      obtain ⟨p, s, h4⟩ : ∃ p s, median lt d i1 j1 k1 s3 = (p, s) := ⟨_, _, rfl⟩
      have hraw : rawPivot lt d a b = (p, s) := by simp only [rawPivot, if_pos h8, if_pos h50, ← hI, ← hJ, ← hK, h1, h2, h3, h4]
      have m1 := medianAdjacent_mem lt d I 0; rw [h1] at m1
      have m2 := medianAdjacent_mem lt d J s1; rw [h2] at m2
      have m3 := medianAdjacent_mem lt d K s2; rw [h3] at m3
      have n1 := medianAdjacent_count lt d I 0; rw [h1] at n1
      have n2 := medianAdjacent_count lt d J s1; rw [h2] at n2
      have n3 := medianAdjacent_count lt d K s2; rw [h3] at n3
      dsimp only at m1 m2 m3 n1 n2 n3
      have C1 := so_medAdj (P := P) (ρ := ρ) { L with } E Y2 I (by omega) (by omega) (by omega)
      rw [h1] at C1
      dsimp only at C1
      have H2 : Hid (∀ W, Sy enc blk off n (w.heap.size + 1) s1 w d W → Calls P (ρ.f 37) #[.agg #[.func (.func g) #[] lb, .func (.func sf) #[] sb], .int .i64 (J : Int), .pointer (some ⟨w.heap.size + 1, 0, none⟩)] W fun e w' => e = .returned (.int .i64 (j1 : Int)) ∧ Ct (w.heap.size + 1) s2 W w') := fun W Y => by
        have h := so_medAdj (P := P) (ρ := ρ) { L with } E Y J (by omega) (by omega) (by omega); rw [h2] at h; exact h
      have H3 : Hid (∀ W, Sy enc blk off n (w.heap.size + 1) s2 w d W → Calls P (ρ.f 37) #[.agg #[.func (.func g) #[] lb, .func (.func sf) #[] sb], .int .i64 (K : Int), .pointer (some ⟨w.heap.size + 1, 0, none⟩)] W fun e w' => e = .returned (.int .i64 (k1 : Int)) ∧ Ct (w.heap.size + 1) s3 W w') := fun W Y => by
        have h := so_medAdj (P := P) (ρ := ρ) { L with } E Y K (by omega) (by omega) (by omega); rw [h3] at h; exact h
      have H4 : Hid (∀ W, Sy enc blk off n (w.heap.size + 1) s3 w d W → Calls P (ρ.f 38) #[.agg #[.func (.func g) #[] lb, .func (.func sf) #[] sb], .int .i64 (i1 : Int), .int .i64 (j1 : Int), .int .i64 (k1 : Int), .pointer (some ⟨w.heap.size + 1, 0, none⟩)] W fun e w' => e = .returned (.int .i64 (p : Int)) ∧ Ct (w.heap.size + 1) s W w') := fun W Y => by
        have h := so_median (P := P) (ρ := ρ) { L with } E Y i1 j1 k1 (by omega) (by omega) (by omega) (by omega); rw [h4] at h; exact h
      rw [hraw]
      obtain ⟨Hc, hHc⟩ : ∃ Hc : Int, Hc = hintCode (hintOf s) := ⟨_, rfl⟩
      have hh0 : s = 0 → Hc = 1 := fun h => by rw [hHc, h]; rfl
      have hh12 : s = 12 → Hc = 2 := fun h => by rw [hHc, h]; rfl
      have hhx : s ≠ 0 → s ≠ 12 → Hc = 0 := fun h1 h2 => by rw [hHc]; unfold hintOf; rw [if_neg h1, if_neg h2]; rfl
      show Calls P (ρ.f 29) _ w fun e w' => e = .returned (.tuple #[.int .i64 (p : Int), .int .i64 (hintCode (hintOf s))]) ∧ St enc w blk off d w'
      rw [← hHc]
      clear hHc hraw h1 h2 h3 h4 hI hJ hK m1 m2 m3
      go_enter L.f29, BodyGg.n29_ntmps ρ
      go_wp2_with (first
        | (go_at_fn (ρ.f 38); refine C4.mono ?_; rintro e w6 ⟨rfl, K6⟩; have cS := K6.c; have Y6 := Y5.ct K6)
        | (go_at_fn (ρ.f 37); refine C3.mono ?_; rintro e w5 ⟨rfl, K5⟩; have c50 := K5.cell c40 l4 ne; have c51 := K5.cell c41 l4 ne; have l5 := Nat.lt_of_lt_of_le l4 K5.ap.size; have Y5 := Y4.ct K5; have C4 := H4.out _ Y5)
        | (go_at_fn (ρ.f 37); refine C2.mono ?_; rintro e w4 ⟨rfl, K4⟩; have c40 := K4.cell c30 l3 ne; have c41 := K4.cell c31 l3 ne; have l4 := Nat.lt_of_lt_of_le l3 K4.ap.size; have Y4 := Y3.ct K4; have C3 := H3.out _ Y4)
        | (go_at_fn (ρ.f 37); refine C1.mono ?_; rintro e w3 ⟨rfl, K3⟩; have c30 := K3.cell b20 l2 ne; have c31 := K3.cell b21 l2 ne; have l3 := Nat.lt_of_lt_of_le l2 K3.ap.size; have Y3 := Y2.ct K3; have C2 := H2.out _ Y3))
      all_goals
        go_ret2
        refine ⟨?_, Y6.st⟩
        first
          | (have e0 : (s : Int) = 0 := of_beq_int (by assumption)
             rw [hh0 (by omega)]; rfl)
          | (have e1 : (s : Int) = 12 := of_beq_int (by assumption)
             rw [hh12 (by omega)]; rfl)
          | (have e0 : (s : Int) ≠ 0 := of_bne_int (by assumption)
             have e1 : (s : Int) ≠ 12 := of_bne_int (by assumption)
             rw [hhx (by omega) (by omega)]; rfl)
          | (rw [hh0 (by omega)]; rfl)
    · obtain ⟨p, s, h4⟩ : ∃ p s, median lt d I J K 0 = (p, s) := ⟨_, _, rfl⟩
      have hraw : rawPivot lt d a b = (p, s) := by simp only [rawPivot, if_pos h8, if_neg h50, ← hI, ← hJ, ← hK, h4]
      have C1 := so_median (P := P) (ρ := ρ) { L with } E Y2 I J K (by omega) (by omega) (by omega) (by omega)
      rw [h4] at C1
      dsimp only at C1
      rw [hraw]
      obtain ⟨Hc, hHc⟩ : ∃ Hc : Int, Hc = hintCode (hintOf s) := ⟨_, rfl⟩
      have hh0 : s = 0 → Hc = 1 := fun h => by rw [hHc, h]; rfl
      have hh12 : s = 12 → Hc = 2 := fun h => by rw [hHc, h]; rfl
      have hhx : s ≠ 0 → s ≠ 12 → Hc = 0 := fun h1 h2 => by rw [hHc]; unfold hintOf; rw [if_neg h1, if_neg h2]; rfl
      show Calls P (ρ.f 29) _ w fun e w' => e = .returned (.tuple #[.int .i64 (p : Int), .int .i64 (hintCode (hintOf s))]) ∧ St enc w blk off d w'
      rw [← hHc]
      clear hHc hraw h4 hI hJ hK
      go_enter L.f29, BodyGg.n29_ntmps ρ
      go_wp2_with (go_at_fn (ρ.f 38); refine C1.mono ?_; rintro e w6 ⟨rfl, K6⟩; have cS := K6.c; have Y6 := Y2.ct K6)
      all_goals
        go_ret2
        refine ⟨?_, Y6.st⟩
        first
          | (have e0 : (s : Int) = 0 := of_beq_int (by assumption)
             rw [hh0 (by omega)]; rfl)
          | (have e1 : (s : Int) = 12 := of_beq_int (by assumption)
             rw [hh12 (by omega)]; rfl)
          | (have e0 : (s : Int) ≠ 0 := of_bne_int (by assumption)
             have e1 : (s : Int) ≠ 12 := of_bne_int (by assumption)
             rw [hhx (by omega) (by omega)]; rfl)
          | (rw [hh0 (by omega)]; rfl)
  · have hraw : rawPivot lt d a b = (J, 0) := by simp only [rawPivot, if_neg h8, ← hJ]
    have cS := Y2.c
    rw [hraw]
    show Calls P (ρ.f 29) _ w fun e w' => e = .returned (.tuple #[.int .i64 (J : Int), .int .i64 1]) ∧ St enc w blk off d w'
    clear hraw hI hJ hK
    go_enter L.f29, BodyGg.n29_ntmps ρ
    go_wp2
    all_goals
      go_ret2
      exact ⟨rfl, Y2.st⟩
end
end Go.Proofs.YtdhlnagkhkcoiaaDoor
