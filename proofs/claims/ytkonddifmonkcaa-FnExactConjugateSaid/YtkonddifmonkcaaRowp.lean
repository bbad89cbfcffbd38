/- A row put behind: which blocks turn. -/
import Derived.Test.YtkonddifmonkcaaRowA
import Derived.Test.YtkonddifmonkcaaBa
namespace Go.Proofs.Ytkonddifmonkcaa
open Go.RowKit
set_option linter.unusedVariables false

theorem ownsRow.ne_ba {w : World} {B s q n size : Nat} {e T : TypeId} {v : Value} {us : List Value} {c : Nat → Bool} (h : w.ownsRow B e size v n us) (hb : Ba w T s q c) (hT : T ≠ e) (hv : v.ownBlock = some s) : False := by
  obtain ⟨_, ⟨rfl, _⟩ | ⟨g, cap, cur, rfl, _, q2, _⟩⟩ := h
  · simp [Value.ownBlock] at hv
  · simp only [Value.ownBlock, Option.some.injEq] at hv
    subst hv
    rw [hb] at q2
    simp only [Option.some.injEq, Obj.cells.injEq] at q2
    exact hT q2.2.1
/-- Rows lie on where all turned but an array of bools. -/
theorem RowsL.hole {w w' : World} {B L s q : Nat} {T : TypeId} {v : Value} {xss : List (List Int)} {c : Nat → Bool} (h : RowsL w B L v xss) (hg : w.grownBy w' (some s)) (hb : Ba w T s q c) (h1 : T ≠ 2) (h2 : T ≠ 35) : RowsL w' B L v xss := by
  obtain ⟨us, e, ho, hk, hL, hr, hd⟩ := h
  refine ⟨us, e, ownsRow_of_block ho (fun k e => hg.block k (World.ownsRow.lt ho k e).2 (fun e2 => by cases e2; exact ownsRow.ne_ba ho hb h2 e)), hk, Nat.le_trans hL hg.size, fun j hj => ?_, hd⟩
  have r := hr j hj
  exact ⟨ownsRow_of_block r.1 (fun k e => hg.block k (World.ownsRow.lt r.1 k e).2 (fun e2 => by cases e2; exact ownsRow.ne_ba r.1 hb h1 e)), r.2.1, Nat.le_trans hL hg.size⟩
theorem RowsL.outer {w : World} {B L s q : Nat} {T : TypeId} {v : Value} {xss : List (List Int)} {c : Nat → Bool} (h : RowsL w B L v xss) (hb : Ba w T s q c) (h2 : T ≠ 35) : v.ownBlock ≠ some s := by
  obtain ⟨us, e, ho, _⟩ := h
  exact fun e => ownsRow.ne_ba ho hb h2 e
theorem grown_set {w w1 : World} {s t : Nat} {v : Value} (h : w.grownBy w1 (some s)) : w.grownBy (w1.setCell ⟨s, t, none⟩ v) (some s) := by
  have b := (Below.refl 0 w1).setCell (p := ⟨s, t, none⟩) (Nat.zero_le _) v
  exact ⟨b.os.trans h.os, b.tape.trans h.tape, b.output.trans h.output, Nat.le_trans h.size b.size, fun k hk hne => (Below.heap_setCell w1 ⟨s, t, none⟩ v k (fun e => hne (by rw [e]))).trans (h.block k hk hne)⟩
theorem grown_below {w w1 w2 : World} {row : Option Nat} {B : Nat} (h : w.grownBy w1 row) (b : Below B w1 w2) (hB : w.heap.size ≤ B) : w.grownBy w2 row :=
  ⟨b.os.trans h.os, b.tape.trans h.tape, b.output.trans h.output, Nat.le_trans h.size b.size, fun k hk hne => (b.block k (by omega)).trans (h.block k hk hne)⟩
theorem grown_refl (w : World) (row : Option Nat) : w.grownBy w row := ⟨rfl, rfl, rfl, Nat.le_refl _, fun _ _ _ => rfl⟩
theorem below_of_hole {w w' : World} {s B : Nat} (h : w.grownBy w' (some s)) (hs : B ≤ s) (hB : B ≤ w.heap.size) : Below B w w' :=
  ⟨h.os, h.tape, h.output, h.size, fun k hk => h.block k (by omega) (fun e => by cases e; omega)⟩
theorem Ints.setOther {w : World} {B : Nat} {v u : Value} {xs : List Int} {s t : Nat} (h : Ints w B v xs) (hs : s < B) : Ints (w.setCell ⟨s, t, none⟩ u) B v xs :=
  ownsRow_of_block h (fun k e => Below.heap_setCell w ⟨s, t, none⟩ u k (fun e2 => by have := (World.ownsRow.lt h k e).1; subst e2; exact absurd hs (Nat.not_lt.2 this)))
def lenV : Value → Nat
  | .slice _ l _ => l
  | _ => 0
theorem Ints.lenV {w : World} {B : Nat} {v : Value} {xs : List Int} (h : Ints w B v xs) : lenV v = xs.length := by
  obtain ⟨_, ⟨rfl, h2⟩ | ⟨g, cap, cur, rfl, _⟩⟩ := h
  · exact h2.symm
  · rfl
/-- 'xss = append(xss, ys)': a younger row put behind. -/
theorem wpList_pushRg {ops : Array Oper} {rest : List Oper} {o : Oper} {a : Act} {Q : Exit → Act → World → Prop} (w : World) (hgd : o.guard = none) (s x : Operand)
    (ho : o.op = .call { callee := .builtin .append, args := #[s, x], argTypes := #[22, 22] })
    (B L : Nat) (v u : Value) (xss : List (List Int)) (ys : List Int) (hs : a.eval s = v) (h : RowsL w B L v xss) (hu : Ints w L u ys) (T : TypeId) (hx : a.eval x = .slice (some ⟨w.heap.size, 0, none⟩) 1 1)
    (hl : xss.length < 1000000000) (hB : B ≤ L)
    (hK : ∀ v' w', RowsL w' B w'.heap.size v' (xss ++ [ys]) → Below B w w' → w.grownBy w' v.ownBlock → wpList Try.prog ops Q rest (a.put o.dst v') w') :
    wpList Try.prog ops Q (o :: rest) a (w.alloc (.cells #[u] T)) := by
  obtain ⟨i0, hi, hz0, hz1, hz2⟩ := info_parts Try.infoRow
  obtain ⟨us, e, hown, h1, h2, hr, hd⟩ := h
  refine wpList_append_own _ hgd s x 22 ho B 35 i0 (.slice none 0 0) 1 24 Try.underlying22 hi hz0 hz1 hz2 rfl (by decide) v xss.length _ hs (hown.alloc _) ⟨w.heap.size, 0, none⟩ 1 1 [u] hx rfl ?c1 ?c2 ?c3 ?c4 ?c5 ?_
  case c1 =>
    intro j z hj
    match j, hj with
    | 0, hj => simp at hj; subst hj; simp [Addr.add]
  case c2 =>
    intro z hz
    simp at hz; subst hz
    obtain ⟨_, ⟨rfl, _⟩ | ⟨g, cap, cur, rfl, _⟩⟩ := hu <;> rfl
  case c3 => unfold maxLen; omega
  case c4 => omega
  case c5 => simp; omega
  intro v' w' h' hg _
  have hT : ∀ {j : Nat} {z : Value} {zs : List Int} {B' L' : Nat}, IntsL w B' L' z zs → IntsL w' B' L' z zs := fun {j z zs B' L'} hz => by
    refine ⟨ownsRow_of_block hz.1 (fun k ek => ?_), hz.2.1, by have := hg.size; have := hz.2.2; simp only [World.size_alloc] at *; omega⟩
    have lt := (World.ownsRow.lt hz.1 k ek).2
    refine (hg.block k (by simp only [World.size_alloc]; omega) (fun e2 => ?_)).trans (Below.heap_alloc _ _ _ lt)
    -- the outer array holds slices, the row integers
    obtain ⟨_, ⟨rfl, _⟩ | ⟨g1, cap1, cur1, rfl, _, q1, _⟩⟩ := hz.1
    · simp [Value.ownBlock] at ek
    · obtain ⟨_, ⟨rfl, _⟩ | ⟨g2, cap2, cur2, rfl, _, q2, _⟩⟩ := hown
      · simp [Value.ownBlock] at e2
      · simp [Value.ownBlock] at ek e2
        subst ek; subst e2
        rw [q1] at q2
        simp only [Option.some.injEq, Obj.cells.injEq] at q2
        exact absurd q2.2.1 (by decide)
  have hul : IntsL w L w.heap.size u ys := hu.lim
  have sz : w.heap.size ≤ w'.heap.size := by have := hg.size; simp only [World.size_alloc] at this; omega
  refine hK v' w' ⟨us ++ [u], by simp [e], ?_, fun k ek => (World.ownsRow.lt h' k ek).2, Nat.le_refl _, fun j hj => ?_, fun i j hij hj => ?_⟩ ?_ ?_
  · rw [List.length_append]; exact h'
  · rw [List.length_append] at hj
    simp only [List.length_singleton] at hj
    by_cases c : j < xss.length
    · have e1 : (us ++ [u]).getD j undef = us.getD j undef := by simp [List.getD, List.getElem?_append_left (show j < us.length by omega)]
      have e2 : (xss ++ [ys]).getD j [] = xss.getD j [] := by simp [List.getD, List.getElem?_append_left c]
      rw [e1, e2]
      exact (hT (j := j) (hr j c)).mono (Nat.le_refl _) (by omega) (Nat.le_refl _)
    · obtain rfl : j = xss.length := by omega
      have e1 : (us ++ [u]).getD xss.length undef = u := by rw [← e]; simp [List.getD]
      have e2 : (xss ++ [ys]).getD xss.length [] = ys := by simp [List.getD]
      rw [e1, e2]
      exact (hT (j := 0) hul).mono hB sz (Nat.le_refl _)
  · rw [List.length_append] at hj
    simp only [List.length_singleton] at hj
    have e1 : ∀ i, i < xss.length → (us ++ [u]).getD i undef = us.getD i undef := fun i hi => by simp [List.getD, List.getElem?_append_left (show i < us.length by omega)]
    by_cases c : j < xss.length
    · rw [e1 i (by omega), e1 j c]
      exact hd i j hij c
    · obtain rfl : j = xss.length := by omega
      have e2 : (us ++ [u]).getD xss.length undef = u := by rw [← e]; simp [List.getD]
      rw [e1 i hij, e2]
      cases k1 : (us.getD i undef).ownBlock with
      | none => exact .inl rfl
      | some k =>
        right
        intro k2
        have a1 := (hr i hij).2.1 k k1
        have a2 := (World.ownsRow.lt hu k k2.symm).1
        omega
  · exact ((Below.refl _ _).alloc (by omega) _).grown hg (by simp; omega) (fun k hk => (World.ownsRow.lt hown k hk).1)
  · have b : Below w.heap.size w (w.alloc (.cells #[u] T)) := (Below.refl _ _).alloc (Nat.le_refl _) _
    exact ⟨hg.os.trans b.os, hg.tape.trans b.tape, hg.output.trans b.output, Nat.le_trans b.size hg.size, fun k hk hne => (hg.block k (Nat.lt_of_lt_of_le hk b.size) hne).trans (b.block k hk)⟩
end Go.Proofs.Ytkonddifmonkcaa
