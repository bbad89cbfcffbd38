/- Blocks of sets as bits (uint32) in memory. -/
import Derived.Test.YtdhlnagkhkcoiaaDoorPs
import Derived.Test.YtdhlnagkhkcoiaaDoorLim
import Derived.Laws.IdiomStrings
import Derived.Lib.BufferRead
namespace Go.Proofs.YtdhlnagkhkcoiaaDoor
open Go.RowKit
set_option linter.unusedVariables false

def uar (n : Nat) (c : Nat → Nat) : Array Value := ((List.range n).map (fun i => Value.int .u32 (c i : Nat))).toArray
theorem uar_get (n : Nat) (c : Nat → Nat) (i : Nat) (h : i < n) : (uar n c)[i]? = some (.int .u32 (c i : Nat)) := by simp [uar, h]
theorem uar_size (n : Nat) (c : Nat → Nat) : (uar n c).size = n := by simp [uar]
def updN (c : Nat → Nat) (i v : Nat) : Nat → Nat := fun j => if j = i then v else c j
theorem uar_set (n : Nat) (c : Nat → Nat) (i v : Nat) : (uar n c).setIfInBounds i (.int .u32 (v : Nat)) = uar n (updN c i v) := by
  apply Array.ext_getElem?
  intro j
  rw [Array.getElem?_setIfInBounds]
  by_cases hj : j < n
  · rw [uar_get n (updN c i v) j hj]
    by_cases e : i = j
    · subst e
      rw [if_pos rfl, if_pos (by rw [uar_size]; exact hj)]; unfold updN; rw [if_pos rfl]
    · rw [if_neg e, uar_get n c j hj]
      unfold updN
      rw [if_neg (fun h => e h.symm)]
  · have h1 := uar_size n c
    have h2 := uar_size n (updN c i v)
    rw [Array.getElem?_eq_none (by omega : (uar n (updN c i v)).size ≤ j)]
    split
    · rw [if_neg (by omega)]
    · exact Array.getElem?_eq_none (by omega)
/-- A block of n sets. -/
def Ub (w : World) (g n : Nat) (c : Nat → Nat) : Prop := w.heap[g]? = some (.cells (uar n c) 81 (0, 0))
theorem Ub.cell {w : World} {g n : Nat} {c : Nat → Nat} (h : Ub w g n c) (i : Nat) (hi : i < n) : w.cell? ⟨g, i, none⟩ = some (.int .u32 (c i : Nat)) := by
  rw [cell_of_row w g i _ _ _ h, uar_get n c i hi]
theorem Ub.frozen {w : World} {g n : Nat} {c : Nat → Nat} (h : Ub w g n c) (i : Nat) : w.frozen? ⟨g, i, none⟩ = false := frozen_of_row w g i _ _ h
theorem Ub.set {w : World} {g n : Nat} {c : Nat → Nat} (h : Ub w g n c) (i v : Nat) : Ub (w.setCell ⟨g, i, none⟩ (.int .u32 (v : Nat))) g n (updN c i v) := by
  unfold Ub
  rw [heap_setCell_same w g i _ _ _ h, uar_set]
theorem Ub.lt {w : World} {g n : Nat} {c : Nat → Nat} (h : Ub w g n c) : g < w.heap.size := by
  unfold Ub at h; exact (Array.getElem?_eq_some_iff.1 h).1
theorem Ub.below {w w' : World} {g n B : Nat} {c : Nat → Nat} (h : Ub w g n c) (hb : Below B w w') (hB : g < B) : Ub w' g n c := (hb.block g hB).trans h
theorem Ub.congr {w : World} {g n : Nat} {c d : Nat → Nat} (h : Ub w g n c) (e : ∀ i, i < n → c i = d i) : Ub w g n d := by
  have : uar n c = uar n d := by
    unfold uar
    congr 1
    exact List.map_congr_left (fun i hi => by rw [e i (List.mem_range.1 hi)])
  unfold Ub at h ⊢
  rw [← this]; exact h
/-- The first n cells of a block are n sets; there may be more cells. -/
def Uc (w : World) (g n : Nat) (c : Nat → Nat) : Prop := ∃ cs T, w.heap[g]? = some (.cells cs T (0, 0)) ∧ ∀ i, i < n → cs[i]? = some (.int .u32 (c i : Nat))
theorem Ub.uc {w : World} {g n : Nat} {c : Nat → Nat} (h : Ub w g n c) : Uc w g n c := ⟨_, _, h, fun i hi => uar_get n c i hi⟩
theorem Uc.cell {w : World} {g n : Nat} {c : Nat → Nat} (h : Uc w g n c) (i : Nat) (hi : i < n) : w.cell? ⟨g, i, none⟩ = some (.int .u32 (c i : Nat)) := by
  obtain ⟨cs, T, h, hc⟩ := h
  rw [cell_of_row w g i _ _ _ h, hc i hi]
theorem Uc.frozen {w : World} {g n : Nat} {c : Nat → Nat} (h : Uc w g n c) (i : Nat) : w.frozen? ⟨g, i, none⟩ = false := by
  obtain ⟨cs, T, h, -⟩ := h
  exact frozen_of_row w g i _ _ h
theorem Uc.lt {w : World} {g n : Nat} {c : Nat → Nat} (h : Uc w g n c) : g < w.heap.size := by
  obtain ⟨cs, T, h, -⟩ := h
  exact (Array.getElem?_eq_some_iff.1 h).1
theorem Uc.below {w w' : World} {g n B : Nat} {c : Nat → Nat} (h : Uc w g n c) (hb : Below B w w') (hB : g < B) : Uc w' g n c := by
  obtain ⟨cs, T, h, hc⟩ := h
  exact ⟨cs, T, (hb.block g hB).trans h, hc⟩
theorem Uc.congr {w : World} {g n : Nat} {c d : Nat → Nat} (h : Uc w g n c) (e : ∀ i, i < n → c i = d i) : Uc w g n d := by
  obtain ⟨cs, T, h, hc⟩ := h
  exact ⟨cs, T, h, fun i hi => by rw [← e i hi]; exact hc i hi⟩
theorem made_uar (n : Nat) : madeCells #[.int .u32 0] n = uar n (fun _ => 0) := by
  apply Array.ext'
  rw [toList_madeCells_one]
  simp [uar, List.map_const']
theorem Tryd.infoSet : (Tryd.prog.info? 81).map (fun i => (i.zero, i.size, i.bytes)) = some (some (.int .u32 0), 1, 4) := by kernel_rfl

/-! ### Bytes -/
def Byt (w : World) (B : Nat) (v : Value) (L : List UInt8) : Prop := w.ownsRow B 5 1 v L.length (L.map (fun b => Value.int .u8 (b.toNat : Int)))
theorem Tryd.infoU8 : (Tryd.prog.info? 5).map (fun i => (i.zero, i.size, i.bytes)) = some (some (.int .u8 0), 1, 1) := by kernel_rfl
theorem wpList_pushB {ops : Array Oper} {rest : List Oper} {o : Oper} {a : Act} {Q : Exit → Act → World → Prop} (w : World) (hgd : o.guard = none) (s x : Operand)
    (ho : o.op = .call { callee := .builtin .append, args := #[s, x], argTypes := #[176, 176] })
    (B : Nat) (v : Value) (L : List UInt8) (hs : a.eval s = v) (h : Byt w B v L) (y : UInt8) (z : Int) (hz : (y.toNat : Int) = z) (T : TypeId) (hx : a.eval x = .slice (some ⟨w.heap.size, 0, none⟩) 1 1)
    (hl : L.length < 1000000000000) (hB : B ≤ w.heap.size)
    (hK : ∀ v' w', Byt w' B v' (L ++ [y]) → Below B w w' → wpList Tryd.prog ops Q rest (a.put o.dst v') w') :
    wpList Tryd.prog ops Q (o :: rest) a (w.alloc (.cells #[.int .u8 z] T)) := by
  obtain ⟨i0, hi, hz0, hz1, hz2⟩ := info_parts Tryd.infoU8
  subst hz
  refine wpList_append_own _ hgd s x 176 ho B 5 i0 (.int .u8 0) 1 1 Tryd.underlying176 hi hz0 hz1 hz2 rfl (by decide) v L.length _ hs (World.ownsRow.alloc h _) ⟨w.heap.size, 0, none⟩ 1 1 [.int .u8 (y.toNat : Int)] hx rfl ?c1 ?c2 ?c3 ?c4 ?c5 ?_
  case c1 =>
    intro j u hj
    match j, hj with
    | 0, hj => simp at hj; subst hj; simp [Addr.add]
  case c2 => intro u hu; simp at hu; subst hu; rfl
  case c3 => unfold maxLen; omega
  case c4 => omega
  case c5 => simp; omega
  intro v' w' h' hg _
  refine hK v' w' ?_ ?_
  · unfold Byt
    rw [List.length_append, List.map_append]
    exact h'
  · exact ((Below.refl _ _).alloc hB _).grown hg (by simp; omega) (fun k hk => (World.ownsRow.lt h k hk).1)
theorem Byt.text {w : World} {B : Nat} {v : Value} {L : List UInt8} (h : Byt w B v L) : (convert 176 9 v).run Tryd.prog w = .ok (.string ⟨L.toArray⟩) w := by
  obtain ⟨e1, ⟨rfl, e2⟩ | ⟨g, cap, cur, rfl, e3, e4, e5, e6, e7, e8⟩⟩ := id h
  · obtain rfl := List.length_eq_zero_iff.1 e2
    exact Lib.run_convert_nil_bytes w _ _ 5 0 Tryd.underlying176 Tryd.underlying5 Tryd.underlying9
  · refine run_convert_bytes_back _ _ _ 5 ⟨g, 0, none⟩ cap L Tryd.underlying176 Tryd.underlying5 Tryd.underlying9 fun j hj => ?_
    rw [show (⟨g, 0, none⟩ : Addr).add j = ⟨g, j, none⟩ by unfold Addr.add; split <;> simp_all, World.ownsRow.cellAt h j (by omega)]
    simp [List.getElem?_eq_getElem hj]
end Go.Proofs.YtdhlnagkhkcoiaaDoor
