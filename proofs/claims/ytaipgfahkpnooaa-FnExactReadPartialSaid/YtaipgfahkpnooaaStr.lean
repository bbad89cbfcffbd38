/- Slices of strings of the call's own; the texts with which a law marks them. -/
import Derived.Test.YtaipgfahkpnooaaSl
import Derived.Laws.IdiomStrings
import Derived.Laws.DeepStrings4
import Derived.Lib.Strings
import Derived.Deep.RegionHeld3
import Derived.Deep.RegionWith
namespace Go.Proofs.Ytaipgfahkpnooaa
open Go.RowKit
set_option linter.unusedVariables false

/-- v is a slice that reads as ss. -/
def StrsAt (w : World) (v : Value) (ss : List ByteArray) : Prop :=
  ss.length ≤ 9223372036854775807 ∧ ((ss = [] ∧ ∃ a cap, v = .slice a 0 cap) ∨
    ∃ g off cap, v = .slice (some ⟨g, off, none⟩) ss.length cap ∧ ∀ j, j < ss.length → w.cell? ⟨g, off + j, none⟩ = some (.string (ss.getD j ByteArray.empty)))
/-- .. in a block of the call's own, from block B on. -/
def Strs (w : World) (B : Nat) (v : Value) (ss : List ByteArray) : Prop := w.ownsRow B 9 1 v ss.length (ss.map Value.string)
theorem Strs.at {w : World} {B : Nat} {v : Value} {ss : List ByteArray} (h : Strs w B v ss) : StrsAt w v ss := by
  obtain ⟨h1, ⟨rfl, h2⟩ | ⟨g, cap, cur, rfl, h3, h4, h5, h6, h7, h8⟩⟩ := h
  · exact ⟨by omega, .inl ⟨List.length_eq_zero_iff.1 h2, none, 0, rfl⟩⟩
  · refine ⟨by unfold maxLen at h6; omega, .inr ⟨g, 0, cap, rfl, fun j hj => ?_⟩⟩
    have hh : w.ownsRow B 9 1 (.slice (some ⟨g, 0, none⟩) ss.length cap) ss.length (ss.map Value.string) := ⟨h1, .inr ⟨g, cap, cur, rfl, h3, h4, h5, h6, h7, h8⟩⟩
    rw [Nat.zero_add, hh.cellAt j (by omega)]
    simp [List.getElem?_map, List.getElem?_eq_getElem hj, List.getD]
theorem StrsAt.drewN {w : World} {v : Value} {ss : List ByteArray} (h : StrsAt w v ss) (n : Nat) : StrsAt (w.drewN n) v ss := h
theorem Strs.drewN {w : World} {B : Nat} {v : Value} {ss : List ByteArray} (h : Strs w B v ss) (n : Nat) : Strs (w.drewN n) B v ss := h
theorem Strs.below {w w' : World} {B B' : Nat} {v : Value} {ss : List ByteArray} (h : Strs w B v ss) (hb : Below B' w w') (hs : w.heap.size ≤ B') : Strs w' B v ss :=
  World.ownsRow.kept (row := none) h ⟨hb.os, hb.tape, hb.output, hb.size, fun k hk _ => hb.block k (by omega)⟩ (by cases h : v.ownBlock <;> simp)
theorem Strs.grown {w w' : World} {B : Nat} {v : Value} {ss : List ByteArray} {row : Option Nat} (h : Strs w B v ss) (hg : w.grownBy w' row) (hne : v.ownBlock = none ∨ v.ownBlock ≠ row) : Strs w' B v ss := World.ownsRow.kept h hg hne
theorem Strs.mono {w : World} {B B' : Nat} {v : Value} {ss : List ByteArray} (h : Strs w B v ss) (hB : B' ≤ B) : Strs w B' v ss := by
  obtain ⟨h1, h2 | ⟨g, cap, cur, rfl, h3, h4⟩⟩ := h
  · exact ⟨h1, .inl h2⟩
  · exact ⟨h1, .inr ⟨g, cap, cur, rfl, by omega, h4⟩⟩
theorem StrsAt.shape {w : World} {v : Value} {ss : List ByteArray} (hv : StrsAt w v ss) : ∃ a cap, v = .slice a ss.length cap ∧ ∀ j, j < ss.length → ∃ g off, a = some ⟨g, off, none⟩ ∧ w.cell? ⟨g, off + j, none⟩ = some (.string (ss.getD j ByteArray.empty)) := by
  obtain ⟨_, ⟨rfl, a, cap, rfl⟩ | ⟨g, off, cap, rfl, hc⟩⟩ := hv
  · exact ⟨a, cap, rfl, fun j hj => by simp at hj⟩
  · exact ⟨_, cap, rfl, fun j hj => ⟨g, off, rfl, hc j hj⟩⟩
theorem Try.infoStr : (Try.prog.info? 9).map (fun i => (i.zero, i.size, i.bytes)) = some (some (.string ByteArray.empty), 1, 16) := by kernel_rfl

/-- 'ss = append(ss, y)' on a slice of the call's own. -/
theorem wpList_pushS {ops : Array Oper} {rest : List Oper} {o : Oper} {a : Act} {Q : Exit → Act → World → Prop} (w : World) (hgd : o.guard = none) (s x : Operand)
    (ho : o.op = .call { callee := .builtin .append, args := #[s, x], argTypes := #[67, 67] })
    (B : Nat) (v : Value) (ss : List ByteArray) (hs : a.eval s = v) (h : Strs w B v ss) (y : ByteArray) (T : TypeId) (hx : a.eval x = .slice (some ⟨w.heap.size, 0, none⟩) 1 1)
    (hl : ss.length < 1000000000000) (hB : B ≤ w.heap.size)
    (hK : ∀ v' w', Strs w' B v' (ss ++ [y]) → Below B w w' → wpList Try.prog ops Q rest (a.put o.dst v') w') :
    wpList Try.prog ops Q (o :: rest) a (w.alloc (.cells #[.string y] T)) := by
  obtain ⟨i0, hi, hz0, hz1, hz2⟩ := info_parts Try.infoStr
  refine wpList_append_own _ hgd s x 67 ho B 9 i0 (.string ByteArray.empty) 1 16 Try.underlying67 hi hz0 hz1 hz2 rfl (by decide) v ss.length _ hs (h.alloc _) ⟨w.heap.size, 0, none⟩ 1 1 [.string y] hx rfl ?c1 ?c2 ?c3 ?c4 ?c5 ?_
  case c1 =>
    intro j u hj
    match j, hj with
    | 0, hj => simp at hj; subst hj; simp [Addr.add]
  case c2 => intro u hu; simp at hu; subst hu; rfl
  case c3 => unfold maxLen; omega
  case c4 => omega
  case c5 => simp; omega
  intro v' w' h' hg _
  refine hK v' w' ?_ ?_
  · unfold Strs
    rw [List.length_append, List.map_append]
    exact h'
  · exact ((Below.refl _ _).alloc hB _).grown hg (by simp; omega) (fun k hk => (World.ownsRow.lt h k hk).1)

/-- The digits of a mark. -/
def mtG : Nat → Nat → List UInt8 → List UInt8
  | 0, _, out => out
  | f + 1, k, out => if k = 0 then out else mtG f (k / 10) (UInt8.ofNat (48 + k % 10) :: out)
theorem mtG_len : ∀ f k out, (mtG f k out).length ≤ out.length + f
  | 0, _, out => Nat.le_refl _
  | f + 1, k, out => by
    rw [mtG]
    split
    · omega
    · have := mtG_len f (k / 10) (UInt8.ofNat (48 + k % 10) :: out)
      rw [List.length_cons] at this; omega
/-- The text that marks with k. -/
def mtext (k : Nat) : ByteArray := ⟨(109 :: mtG (k + 1) k []).toArray⟩

/-- The texts k, k + 1, .. -/
def marksS (k : Nat) (n : Nat) : List ByteArray := (List.range n).map (fun i => mtext (k + i))
theorem marksS_length (k n : Nat) : (marksS k n).length = n := by simp [marksS]
theorem marksS_getD (k n i : Nat) (h : i < n) : (marksS k n).getD i ByteArray.empty = mtext (k + i) := by simp [marksS, List.getD, h]
theorem marksS_set (k : Nat) (ss : List ByteArray) (j : Nat) (h : j < ss.length) : (marksS k j ++ ss.drop j).set j (mtext (k + j)) = marksS k (j + 1) ++ ss.drop (j + 1) := by
  rw [List.set_append_right _ _ (by simp [marksS_length]), marksS_length, Nat.sub_self, List.drop_eq_getElem_cons h, List.set_cons_zero]
  simp [marksS, List.range_succ]

theorem KeepsS.next {w w' w'' : World} {g j : Nat} {x : ByteArray} (h : w'.cell? ⟨g, j, none⟩ = some (.string x) ∧ Hid (Below w.heap.size w w')) (hb : Below w'.heap.size w' w'') :
    w''.cell? ⟨g, j, none⟩ = some (.string x) ∧ Hid (Below w.heap.size w w'') :=
  ⟨(hb.cell (p := ⟨g, j, none⟩) (World.block_lt_of_cell? w' _ h.1)).trans h.1, h.2.out.trans (hb.mono h.2.out.size)⟩

end Go.Proofs.Ytaipgfahkpnooaa
