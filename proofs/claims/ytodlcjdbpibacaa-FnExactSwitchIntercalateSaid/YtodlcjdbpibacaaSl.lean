/- Slices of integers of the call's own: comparing, marking, and reading the marks. -/
import Derived.Test.YtodlcjdbpibacaaIn
import Derived.Deep.QuietTactic
import Derived.BigQuiet
import Derived.Outline
import Derived.Laws.OwnMore
import Derived.Deep.OwnRows
import Derived.WalkSpells
import Derived.Carry
namespace Go.Proofs.Ytodlcjdbpibacaa
open Go.RowKit
set_option linter.unusedVariables false

/-- v is a slice that reads as xs. -/
def IntsAt (w : World) (v : Value) (xs : List Int) : Prop :=
  xs.length ≤ 9223372036854775807 ∧ ((xs = [] ∧ ∃ a cap, v = .slice a 0 cap) ∨
    ∃ g off cap, v = .slice (some ⟨g, off, none⟩) xs.length cap ∧ ∀ j, j < xs.length → w.cell? ⟨g, off + j, none⟩ = some (.int .i64 (xs.getD j 0)))

/-- .. in a block of the call's own, from block B on. -/
def Ints (w : World) (B : Nat) (v : Value) (xs : List Int) : Prop := w.ownsRow B 2 1 v xs.length (xs.map (Value.int .i64))

theorem Ints.at {w : World} {B : Nat} {v : Value} {xs : List Int} (h : Ints w B v xs) : IntsAt w v xs := by
  obtain ⟨h1, ⟨rfl, h2⟩ | ⟨g, cap, cur, rfl, h3, h4, h5, h6, h7, h8⟩⟩ := h
  · exact ⟨by omega, .inl ⟨List.length_eq_zero_iff.1 h2, none, 0, rfl⟩⟩
  · refine ⟨by unfold maxLen at h6; omega, .inr ⟨g, 0, cap, rfl, fun j hj => ?_⟩⟩
    have hh : w.ownsRow B 2 1 (.slice (some ⟨g, 0, none⟩) xs.length cap) xs.length (xs.map (Value.int .i64)) := ⟨h1, .inr ⟨g, cap, cur, rfl, h3, h4, h5, h6, h7, h8⟩⟩
    rw [Nat.zero_add, hh.cellAt j (by omega)]
    simp [List.getElem?_map, List.getElem?_eq_getElem hj, List.getD]

theorem IntsAt.drewN {w : World} {v : Value} {xs : List Int} (h : IntsAt w v xs) (n : Nat) : IntsAt (w.drewN n) v xs := h
theorem Ints.drewN {w : World} {B : Nat} {v : Value} {xs : List Int} (h : Ints w B v xs) (n : Nat) : Ints (w.drewN n) B v xs := h

/-- What lies in blocks below B is still there. -/
theorem Ints.below {w w' : World} {B B' : Nat} {v : Value} {xs : List Int} (h : Ints w B v xs) (hb : Below B' w w') (hs : w.heap.size ≤ B') : Ints w' B v xs :=
  World.ownsRow.kept (row := none) h ⟨hb.os, hb.tape, hb.output, hb.size, fun k hk _ => hb.block k (by omega)⟩ (by cases h : v.ownBlock <;> simp)

/-- What lies in a block that a write does not hit is still there. -/
theorem Ints.grown {w w' : World} {B : Nat} {v : Value} {xs : List Int} {row : Option Nat} (h : Ints w B v xs) (hg : w.grownBy w' row) (hne : v.ownBlock = none ∨ v.ownBlock ≠ row) : Ints w' B v xs := World.ownsRow.kept h hg hne

theorem Ints.mono {w : World} {B B' : Nat} {v : Value} {xs : List Int} (h : Ints w B v xs) (hB : B' ≤ B) : Ints w B' v xs := by
  obtain ⟨h1, h2 | ⟨g, cap, cur, rfl, h3, h4⟩⟩ := h
  · exact ⟨h1, .inl h2⟩
  · exact ⟨h1, .inr ⟨g, cap, cur, rfl, by omega, h4⟩⟩

/-- Two slices that read alike are equal. -/
theorem eq_same (w : World) (u v : Value) (xs : List Int) (hu : IntsAt w u xs) (hv : IntsAt w v xs) :
    Calls Try.prog 10 #[u, v] w fun e w' => e = .returned (.bool true) ∧ ∃ n, w' = w.drewN n := by
  obtain ⟨hl, hu⟩ := hu
  obtain ⟨_, hv⟩ := hv
  rcases hu with ⟨rfl, a, cap, rfl⟩ | ⟨g, off, cap, rfl, hc⟩
  · have hv' : ∃ a cap, v = .slice a 0 cap := by
      rcases hv with ⟨_, hv⟩ | ⟨g, off, cap, rfl, _⟩
      · exact hv
      · exact ⟨_, _, rfl⟩
    obtain ⟨a', cap', rfl⟩ := hv'
    clear hl hv
    go_enter Try.func10, Try.ntmps10
    go_wp2
    refine wp_loop_rounds 1 ?_
    rw [rounds_succ]
    go_wp2
    go_ret
    exact ⟨rfl, 0, rfl⟩
  · by_cases h0 : xs = []
    · subst h0
      have hv' : ∃ a cap, v = .slice a 0 cap := by
        rcases hv with ⟨_, hv⟩ | ⟨g, off, cap, rfl, _⟩
        · exact hv
        · exact ⟨_, _, rfl⟩
      obtain ⟨a', cap', rfl⟩ := hv'
      clear hl hv hc
      go_enter Try.func10, Try.ntmps10
      go_wp2
      refine wp_loop_rounds 1 ?_
      rw [rounds_succ]
      go_wp2
      go_ret
      exact ⟨rfl, 0, rfl⟩
    · rcases hv with ⟨rfl, _⟩ | ⟨g', off', cap', rfl, hc'⟩
      · exact absurd rfl h0
      clear h0
      have HC := Lib.hid hc
      have HC' := Lib.hid hc'
      clear hc hc'
      obtain ⟨len, hlen⟩ : ∃ len, xs.length = len := ⟨_, rfl⟩
      rw [hlen] at hl
      have HL := Lib.hid hlen
      rw [hlen]
      clear hlen
      go_enter Try.func10, Try.ntmps10
      go_wp2
      go_loopw [5] (fun i wr => ∃ k : Nat, k ≤ len ∧ i = .int .i64 k ∧ ∃ n, wr = w.drewN n) (fun i _ => len - (intOf i).toNat)
      case atStart => exact ⟨0, Nat.zero_le _, rfl, 0, rfl⟩
      case round =>
        obtain ⟨k, hk, rfl, n, rfl⟩ := hrel
        by_cases hlt : k < len
        · have g1 := HC.out k (by rw [HL.out]; exact hlt)
          have g2 := HC'.out k (by rw [HL.out]; exact hlt)
          have i1 : (0 : Int) ≤ (k : Int) := by omega
          have i2 : (k : Int) < (len : Int) := by omega
          go_wp2
          go_quiet (fail)
          go_wp2
          go_roundw
          case rel => exact ⟨k + 1, by omega, by go_num, _, rfl⟩
          case measure => simp [intOf]; omega
        · go_wp2
          go_ret
          exact ⟨rfl, _, rfl⟩

/-- The marks k, k + 1, .. -/
def marks (k : Int) (n : Nat) : List Int := (List.range n).map (fun i => k + (i : Nat))
theorem marks_length (k : Int) (n : Nat) : (marks k n).length = n := by simp [marks]
theorem marks_getD (k : Int) (n i : Nat) (h : i < n) : (marks k n).getD i 0 = k + i := by
  simp [marks, List.getD, h]

/-- Marks are found again. -/
theorem held_marks (w : World) (v : Value) (k : Int) (n : Nat) (hv : IntsAt w v (marks k n)) (k0 : 0 ≤ k) (k1 : k + n ≤ 9223372036854775807) :
    Calls Try.prog 22 #[v, .int .i64 k] w fun e w' => e = .returned (.int .i64 (k + n)) ∧ w = w' := by
  obtain ⟨hl, hv⟩ := hv
  rw [marks_length] at hl hv
  rcases hv with ⟨h0, a, cap, rfl⟩ | ⟨g, off, cap, rfl, hc⟩
  · obtain rfl : n = 0 := by have := marks_length k n; rw [h0] at this; simpa using this.symm
    clear h0 hl
    go_enter Try.func22, Try.ntmps22
    go_wp2
    refine wp_loop_rounds 1 ?_
    rw [rounds_succ]
    go_wp2
    go_ret
    exact ⟨ret_i _ _ (by omega), rfl⟩
  · have HC := Lib.hid hc
    clear hc
    go_enter Try.func22, Try.ntmps22
    go_wp2
    go_loop [1, 5] (fun u i => ∃ j : Nat, j ≤ n ∧ i = .int .i64 j ∧ u = .int .i64 (k + j)) (fun _ i => n - (intOf i).toNat)
    case atStart => exact ⟨0, Nat.zero_le _, rfl, by simp⟩
    case round =>
      obtain ⟨j, hj, rfl, rfl⟩ := hrel
      by_cases hlt : j < n
      · have g1 := HC.out j hlt
        rw [marks_getD k n j hlt] at g1
        have i1 : (0 : Int) ≤ (j : Int) := by omega
        have i2 : (j : Int) < (n : Int) := by omega
        go_wp2
        go_round
        case rel => exact ⟨j + 1, by omega, by go_num, by go_num⟩
        case measure => simp [intOf]; omega
      · go_wp2
        go_ret
        exact ⟨ret_i _ _ (by omega), rfl⟩

theorem marks_set (k : Int) (xs : List Int) (j : Nat) (h : j < xs.length) : (marks k j ++ xs.drop j).set j (k + j) = marks k (j + 1) ++ xs.drop (j + 1) := by
  rw [List.set_append_right _ _ (by simp [marks_length]), marks_length, Nat.sub_self, List.drop_eq_getElem_cons h, List.set_cons_zero]
  simp [marks, List.range_succ]

theorem below_of_grown {w w' : World} {row : Option Nat} {B : Nat} (hg : w.grownBy w' row) (hB : B ≤ w.heap.size) (hr : ∀ k, row = some k → B ≤ k) : Below B w w' := (Below.refl _ _).grown hg hB hr

/-- Marking a slice of the call's own. -/
theorem mark_own (w : World) (B : Nat) (v : Value) (xs : List Int) (k : Int) (h : Ints w B v xs) (k0 : 0 ≤ k) (k1 : k + xs.length ≤ 9223372036854775807) :
    Calls Try.prog 12 #[v, .int .i64 k] w fun e w' => e = .returned (.int .i64 (k + xs.length)) ∧ Ints w' B v (marks k xs.length) ∧ w.grownBy w' v.ownBlock ∧ w'.heap.size = w.heap.size := by
  have H := Lib.hid h
  obtain ⟨n, hn⟩ : ∃ n, xs.length = n := ⟨_, rfl⟩
  obtain ⟨_, ⟨rfl, h2⟩ | ⟨g, cap, cur, rfl, h3, h4, h5, h6, h7, h8⟩⟩ := h
  · obtain rfl := List.length_eq_zero_iff.1 h2
    clear hn k1 h2
    go_enter Try.func12, Try.ntmps12
    go_wp2
    refine wp_loop_rounds 1 ?_
    rw [rounds_succ]
    go_wp2
    go_ret
    exact ⟨ret_i _ _ (by simp), H.out, ⟨rfl, rfl, rfl, Nat.le_refl _, fun _ _ _ => rfl⟩, rfl⟩
  · clear h3 h4 h5 h6 h7 h8
    have HN := Lib.hid hn
    unfold Ints at H
    rw [hn] at H k1 ⊢
    have hS : Hid (w.ownsRow B 2 1 (.slice (some ⟨g, 0, none⟩) n cap) n ((marks k 0 ++ xs.drop 0).map (Value.int .i64))) := by simpa [marks] using H
    clear hn
    go_enter Try.func12, Try.ntmps12
    go_wp2
    go_loopw [1, 5] (fun u i wr => ∃ j : Nat, j ≤ n ∧ i = .int .i64 j ∧ u = .int .i64 (k + j) ∧ Hid (wr.ownsRow B 2 1 (.slice (some ⟨g, 0, none⟩) n cap) n ((marks k j ++ xs.drop j).map (Value.int .i64))) ∧ Hid (w.grownBy wr (some g) ∧ wr.heap.size = w.heap.size)) (fun _ i _ => n - (intOf i).toNat)
    case atStart => exact ⟨0, Nat.zero_le _, rfl, by simp, hS, ⟨rfl, rfl, rfl, Nat.le_refl _, fun _ _ _ => rfl⟩, rfl⟩
    case round =>
      obtain ⟨j, hj, rfl, rfl, ho, hg⟩ := hrel
      by_cases hlt : j < n
      · have i1 : (0 : Int) ≤ (j : Int) := by omega
        have i2 : (j : Int) < (n : Int) := by omega
        obtain ⟨old, hold⟩ : ∃ old, wr.cell? ⟨g, j, none⟩ = some old := by
          rw [ho.out.cellAt j (by omega), List.getElem?_eq_getElem (by have := ho.out.1; omega)]; exact ⟨_, rfl⟩
        have hf : wr.frozen? ⟨g, j, none⟩ = false := ho.out.frozenAt j
        have hst := ho.out.stored j (.int .i64 (k + j))
        have S1 : Hid ((wr.setCell ⟨g, j, none⟩ (.int .i64 (k + j))).ownsRow B 2 1 (.slice (some ⟨g, 0, none⟩) n cap) n ((marks k (j + 1) ++ xs.drop (j + 1)).map (Value.int .i64))) := by
          have := hst.1
          rw [← List.map_set, marks_set k xs j (by rw [HN.out]; exact hlt)] at this
          exact this
        have S2 : Hid (w.grownBy (wr.setCell ⟨g, j, none⟩ (.int .i64 (k + j))) (some g) ∧ (wr.setCell ⟨g, j, none⟩ (.int .i64 (k + j))).heap.size = w.heap.size) := by
          obtain ⟨q1, q2⟩ := hg.out
          have q3 := hst.2
          refine ⟨⟨q3.os.trans q1.os, q3.tape.trans q1.tape, q3.output.trans q1.output, Nat.le_trans q1.size q3.size, fun i hi hne => (q3.block i (by omega) hne).trans (q1.block i hi hne)⟩, ?_⟩
          simp [World.setCell, q2]
        clear hst
        go_wp2
        go_roundw
        case rel => exact ⟨j + 1, by omega, by go_num, by go_num, S1, S2⟩
        case measure => simp [intOf]; omega
      · obtain rfl : j = n := by omega
        go_wp2
        go_ret
        refine ⟨rfl, ?_, hg.out.1, hg.out.2⟩
        have := ho.out
        rw [← HN.out, List.drop_length, List.append_nil] at this
        unfold Ints
        rw [marks_length, ← HN.out]
        exact this

theorem Try.infoInt : (Try.prog.info? 2).map (fun i => (i.zero, i.size, i.bytes)) = some (some (.int .i64 0), 1, 8) := by kernel_rfl

/-- 'xs = append(xs, y)' on a slice of the call's own. -/
theorem wpList_push {ops : Array Oper} {rest : List Oper} {o : Oper} {a : Act} {Q : Exit → Act → World → Prop} (w : World) (hgd : o.guard = none) (s x : Operand)
    (ho : o.op = .call { callee := .builtin .append, args := #[s, x], argTypes := #[23, 23] })
    (B : Nat) (v : Value) (xs : List Int) (hs : a.eval s = v) (h : Ints w B v xs) (y : Int) (T : TypeId) (hx : a.eval x = .slice (some ⟨w.heap.size, 0, none⟩) 1 1)
    (hl : xs.length < 1000000000000) (hB : B ≤ w.heap.size)
    (hK : ∀ v' w', Ints w' B v' (xs ++ [y]) → Below B w w' → wpList Try.prog ops Q rest (a.put o.dst v') w') :
    wpList Try.prog ops Q (o :: rest) a (w.alloc (.cells #[.int .i64 y] T)) := by
  obtain ⟨i0, hi, hz0, hz1, hz2⟩ := info_parts Try.infoInt
  refine wpList_append_own _ hgd s x 23 ho B 2 i0 (.int .i64 0) 1 8 Try.underlying23 hi hz0 hz1 hz2 rfl (by decide) v xs.length _ hs (h.alloc _) ⟨w.heap.size, 0, none⟩ 1 1 [.int .i64 y] hx rfl ?c1 ?c2 ?c3 ?c4 ?c5 ?_
  case c1 =>
    intro j u hj
    match j, hj with
    | 0, hj => simp at hj; subst hj; simp [Addr.add]
  case c2 => intro u hu; simp at hu; subst hu; rfl
  case c3 => unfold maxLen; omega
  case c4 => omega
  case c5 => simp; omega
  intro v' w' h' hg _
  refine hK v' w' ?_ ?_
  · unfold Ints
    rw [List.length_append, List.map_append]
    exact h'
  · exact ((Below.refl _ _).alloc hB _).grown hg (by simp; omega) (fun k hk => (World.ownsRow.lt h k hk).1)

/-- Marking a younger slice leaves an older one as it was. -/
theorem Ints.mark_other {w0 w1 w w' : World} {B0 B1 : Nat} {u v : Value} {xs ys : List Int} (h : Ints w B0 u xs) (hv : Ints w1 B1 v ys) (_hs : True) (h0 : Ints w0 B0 u xs) (hB : w0.heap.size ≤ B1) (hg : w.grownBy w' v.ownBlock) : Ints w' B0 u xs := by
  refine h.grown hg ?_
  cases e : u.ownBlock with
  | none => exact .inl rfl
  | some k =>
    right
    intro e'
    have a1 := (World.ownsRow.lt h0 k e).2
    have a2 := (World.ownsRow.lt hv k e'.symm).1
    omega

theorem below_law {w w1 w2 w4 w6 : World} {n m : Nat} (h0 : Below w.heap.size w w1) (h1 : Below w1.heap.size w1 w2) (h2 : Below w1.heap.size (w2.drewN n) w4) (h3 : Below w4.heap.size w4 w6) : Below w.heap.size w (w6.drewN m) := by
  have e0 := h0.size
  have e1 := h1.size
  have e2 : w2.heap.size ≤ w4.heap.size := h2.size
  exact below_drewN (h0.trans (((below_drewN h1 n).trans h2).mono e0 |>.trans (h3.mono (by omega)))) m
end Go.Proofs.Ytodlcjdbpibacaa
