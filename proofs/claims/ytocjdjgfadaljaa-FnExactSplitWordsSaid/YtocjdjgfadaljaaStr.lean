/- Slices of strings of the call's own; the texts with which a law marks them. -/
import Derived.Test.YtocjdjgfadaljaaSl
import Derived.Laws.IdiomStrings
import Derived.Laws.DeepStrings4
import Derived.Lib.Strings
import Derived.Deep.RegionHeld3
import Derived.Deep.RegionWith
namespace Go.Proofs.Ytocjdjgfadaljaa
open Go.RowKit
set_option linter.unusedVariables false

/-- v is a slice that reads as ss. -/
def StrsAt (w : World) (v : Value) (ss : List ByteArray) : Prop :=
  ss.length ≤ 9223372036854775807 ∧ ((ss = [] ∧ ∃ a cap, v = .slice a 0 cap) ∨
    ∃ g off cap, v = .slice (some ⟨g, off, none⟩) ss.length cap ∧ ∀ j, j < ss.length → w.cell? ⟨g, off + j, none⟩ = some (.string (ss.getD j ByteArray.empty)))
/-- .. in a block of the call's own, from block B on. -/
def Strs (w : World) (B : Nat) (v : Value) (ss : List ByteArray) : Prop := w.ownsRow B 9 1 v ss.length (ss.map Value.string)
theorem Strs.at {w : World} {B : Nat} {v : Value} {ss : List ByteArray} (h : Strs w B v ss) : StrsAt w v ss := by
  obtain ⟨h1, ⟨rfl, h2⟩ | ⟨g, cap, cur, rfl, h3, h4, h5, h6, h7, h8⟩⟩ := h
  · exact ⟨by omega, .inl ⟨List.length_eq_zero_iff.1 h2, none, 0, rfl⟩⟩
  · refine ⟨by unfold maxLen at h6; omega, .inr ⟨g, 0, cap, rfl, fun j hj => ?_⟩⟩
    have hh : w.ownsRow B 9 1 (.slice (some ⟨g, 0, none⟩) ss.length cap) ss.length (ss.map Value.string) := ⟨h1, .inr ⟨g, cap, cur, rfl, h3, h4, h5, h6, h7, h8⟩⟩
    rw [Nat.zero_add, hh.cellAt j (by omega)]
    simp [List.getElem?_map, List.getElem?_eq_getElem hj, List.getD]
theorem StrsAt.drewN {w : World} {v : Value} {ss : List ByteArray} (h : StrsAt w v ss) (n : Nat) : StrsAt (w.drewN n) v ss := h
theorem Strs.drewN {w : World} {B : Nat} {v : Value} {ss : List ByteArray} (h : Strs w B v ss) (n : Nat) : Strs (w.drewN n) B v ss := h
theorem Strs.below {w w' : World} {B B' : Nat} {v : Value} {ss : List ByteArray} (h : Strs w B v ss) (hb : Below B' w w') (hs : w.heap.size ≤ B') : Strs w' B v ss :=
  World.ownsRow.kept (row := none) h ⟨hb.os, hb.tape, hb.output, hb.size, fun k hk _ => hb.block k (by omega)⟩ (by cases h : v.ownBlock <;> simp)
theorem Strs.grown {w w' : World} {B : Nat} {v : Value} {ss : List ByteArray} {row : Option Nat} (h : Strs w B v ss) (hg : w.grownBy w' row) (hne : v.ownBlock = none ∨ v.ownBlock ≠ row) : Strs w' B v ss := World.ownsRow.kept h hg hne
theorem Strs.mono {w : World} {B B' : Nat} {v : Value} {ss : List ByteArray} (h : Strs w B v ss) (hB : B' ≤ B) : Strs w B' v ss := by
  obtain ⟨h1, h2 | ⟨g, cap, cur, rfl, h3, h4⟩⟩ := h
  · exact ⟨h1, .inl h2⟩
  · exact ⟨h1, .inr ⟨g, cap, cur, rfl, by omega, h4⟩⟩
theorem StrsAt.shape {w : World} {v : Value} {ss : List ByteArray} (hv : StrsAt w v ss) : ∃ a cap, v = .slice a ss.length cap ∧ ∀ j, j < ss.length → ∃ g off, a = some ⟨g, off, none⟩ ∧ w.cell? ⟨g, off + j, none⟩ = some (.string (ss.getD j ByteArray.empty)) := by
  obtain ⟨_, ⟨rfl, a, cap, rfl⟩ | ⟨g, off, cap, rfl, hc⟩⟩ := hv
  · exact ⟨a, cap, rfl, fun j hj => by simp at hj⟩
  · exact ⟨_, cap, rfl, fun j hj => ⟨g, off, rfl, hc j hj⟩⟩
theorem Try.infoStr : (Try.prog.info? 9).map (fun i => (i.zero, i.size, i.bytes)) = some (some (.string ByteArray.empty), 1, 16) := by kernel_rfl

/-- 'ss = append(ss, y)' on a slice of the call's own. -/
theorem wpList_pushS {ops : Array Oper} {rest : List Oper} {o : Oper} {a : Act} {Q : Exit → Act → World → Prop} (w : World) (hgd : o.guard = none) (s x : Operand)
    (ho : o.op = .call { callee := .builtin .append, args := #[s, x], argTypes := #[34, 34] })
    (B : Nat) (v : Value) (ss : List ByteArray) (hs : a.eval s = v) (h : Strs w B v ss) (y : ByteArray) (T : TypeId) (hx : a.eval x = .slice (some ⟨w.heap.size, 0, none⟩) 1 1)
    (hl : ss.length < 1000000000000) (hB : B ≤ w.heap.size)
    (hK : ∀ v' w', Strs w' B v' (ss ++ [y]) → Below B w w' → wpList Try.prog ops Q rest (a.put o.dst v') w') :
    wpList Try.prog ops Q (o :: rest) a (w.alloc (.cells #[.string y] T)) := by
  obtain ⟨i0, hi, hz0, hz1, hz2⟩ := info_parts Try.infoStr
  refine wpList_append_own _ hgd s x 34 ho B 9 i0 (.string ByteArray.empty) 1 16 Try.underlying34 hi hz0 hz1 hz2 rfl (by decide) v ss.length _ hs (h.alloc _) ⟨w.heap.size, 0, none⟩ 1 1 [.string y] hx rfl ?c1 ?c2 ?c3 ?c4 ?c5 ?_
  case c1 =>
    intro j u hj
    match j, hj with
    | 0, hj => simp at hj; subst hj; simp [Addr.add]
  case c2 => intro u hu; simp at hu; subst hu; rfl
  case c3 => unfold maxLen; omega
  case c4 => omega
  case c5 => simp; omega
  intro v' w' h' hg _
  refine hK v' w' ?_ ?_
  · unfold Strs
    rw [List.length_append, List.map_append]
    exact h'
  · exact ((Below.refl _ _).alloc hB _).grown hg (by simp; omega) (fun k hk => (World.ownsRow.lt h k hk).1)

/-- Two slices that read alike are equal. -/
theorem eqs_same (w : World) (u v : Value) (ss : List ByteArray) (hu : StrsAt w u ss) (hv : StrsAt w v ss) :
    Calls Try.prog 22 #[u, v] w fun e w' => e = .returned (.bool true) ∧ ∃ n, w' = w.drewN n := by
  have hml := hu.1
  obtain ⟨a, cap, rfl, hc⟩ := hu.shape
  obtain ⟨b, capb, rfl, hd⟩ := hv.shape
  obtain ⟨m, hm⟩ : ∃ m, ss.length = m := ⟨_, rfl⟩
  rw [hm] at hc hd hml ⊢
  have HC := Lib.hid hc
  have HD := Lib.hid hd
  have t : ((m : Int) != (m : Int)) = false := by simp
  clear hc hd hu hv hm
  go_enter Try.func22, Try.ntmps22
  go_wp2
  go_loopw [5] (fun i wr => ∃ j : Nat, j ≤ m ∧ i = .int .i64 j ∧ ∃ d, wr = w.drewN d) (fun i _ => m - (intOf i).toNat)
  case atStart => exact ⟨0, by omega, rfl, 0, rfl⟩
  case round =>
    obtain ⟨j, hj, rfl, d, rfl⟩ := hrel
    by_cases c : j < m
    · have g1 : decide (j < m) = true := by simpa using c
      obtain ⟨g, off, rfl, c1⟩ := HC.out j c
      obtain ⟨g', off', rfl, c2⟩ := HD.out j c
      obtain ⟨x, hx⟩ : ∃ x, ss.getD j ByteArray.empty = x := ⟨_, rfl⟩
      rw [hx] at c1 c2
      have j0 : (0 : Int) ≤ (j : Int) := by omega
      have j1 : (j : Int) < (m : Int) := by omega
      have w3 := IntWalk.i64_in ((j : Int) + 1) (by omega)
      have t2 : (x.toList == x.toList) = true := by simp
      clear hx
      go_wp2
      go_quiet (fail)
      go_wp2
      go_roundw
      case rel => exact ⟨j + 1, by omega, by go_num, _, rfl⟩
      case measure => simp [intOf]; omega
    · have g1 : decide (j < m) = false := by simpa using c
      go_wp2
      go_ret
      exact ⟨rfl, _, rfl⟩

/-- The digits of a mark. -/
def mtG : Nat → Nat → List UInt8 → List UInt8
  | 0, _, out => out
  | f + 1, k, out => if k = 0 then out else mtG f (k / 10) (UInt8.ofNat (48 + k % 10) :: out)
theorem mtG_len : ∀ f k out, (mtG f k out).length ≤ out.length + f
  | 0, _, out => Nat.le_refl _
  | f + 1, k, out => by
    rw [mtG]
    split
    · omega
    · have := mtG_len f (k / 10) (UInt8.ofNat (48 + k % 10) :: out)
      rw [List.length_cons] at this; omega
/-- The text that marks with k. -/
def mtext (k : Nat) : ByteArray := ⟨(109 :: mtG (k + 1) k []).toArray⟩

theorem mark_text (k : Nat) (w : World) (k1 : 1 ≤ k ∧ k ≤ 100000000) :
    Calls Try.prog 48 #[.int .i64 k] w fun e w' => e = .returned (.string (mtext k)) ∧ Below w.heap.size w w' := by
  obtain ⟨R, hR⟩ : ∃ R, mtG (k + 1) k [] = R := ⟨_, rfl⟩
  have E : Hid (mtext k = ⟨(109 :: R).toArray⟩) := by unfold Hid mtext; rw [hR]
  have HR := Lib.hid hR
  have RL : R.length ≤ 100000001 := by have := mtG_len (k + 1) k []; rw [hR] at this; simp at this; omega
  have hk0 : decide (k ≤ 0) = false := by simp; omega
  have hk0' : decide ((k : Int) ≤ 0) = false := by simp; omega
  have CV : ∀ (W : World) (z : Int) (T : TypeId), 0 ≤ z → z < 256 → (convert 22 9 (.slice (some ⟨W.heap.size, 0, none⟩) 1 1)).run Try.prog (W.alloc (.cells #[.int .u8 z] T)) = .ok (.string ⟨[UInt8.ofNat z.toNat].toArray⟩) (W.alloc (.cells #[.int .u8 z] T)) := fun W z T h0 hd => by
    refine run_convert_bytes_back _ _ _ 5 ⟨W.heap.size, 0, none⟩ 1 [UInt8.ofNat z.toNat] Try.underlying22 Try.underlying5 Try.underlying9 fun j hj => ?_
    obtain rfl : j = 0 := by simpa using hj
    have e : (((UInt8.ofNat z.toNat).toNat : Nat) : Int) = z := by simp; omega
    rw [show (⟨W.heap.size, 0, none⟩ : Addr).add 0 = ⟨W.heap.size, 0, none⟩ from rfl, World.cell?_alloc_at _ _ _ _ rfl]
    simp only [List.getElem_cons_zero, e]
    simp
  have HV := Lib.hid CV
  clear hR CV
  go_enter Try.func48, Try.ntmps48
  go_wp2
  go_loopw [0, 3] (fun q o wr => ∃ (f q' : Nat) (out : List UInt8), q' < f ∧ q' ≤ k ∧ out.length + f ≤ k + 1 ∧ q = .int .i64 q' ∧ o = .string ⟨out.toArray⟩ ∧ Hid (mtG f q' out = R) ∧ Hid (Below w.heap.size w wr)) (fun q _ _ => (intOf q).toNat)
  case atStart => exact ⟨k + 1, k, [], by omega, by omega, by simp, rfl, rfl, HR.out, Below.refl _ _⟩
  case round =>
    obtain ⟨f, q, out, hqf, hqk, hol, rfl, rfl, hG, hBl⟩ := hrel
    obtain ⟨f, rfl⟩ : ∃ f0, f = f0 + 1 := ⟨f - 1, by omega⟩
    by_cases c : 0 < q
    · have g1 : decide (0 < q) = true := by simpa using c
      have g1' : decide ((0 : Int) < (q : Int)) = true := by simp; omega
      have hcv := HV.out wr (48 + (q : Int) % 10) 5 (by omega) (by omega)
      have ed : (48 + (q : Int) % 10).toNat = 48 + q % 10 := by omega
      rw [ed] at hcv
      obtain ⟨y, hy⟩ : ∃ y, UInt8.ofNat (48 + q % 10) = y := ⟨_, rfl⟩
      rw [hy] at hcv
      have sz : ¬ ((⟨[y].toArray⟩ : ByteArray).size + (⟨out.toArray⟩ : ByteArray).size > 9223372036854775807) := by simp [ByteArray.size]; omega
      have ap : (⟨[y].toArray⟩ : ByteArray) ++ ⟨out.toArray⟩ = ⟨(y :: out).toArray⟩ := by rw [ByteArray.mk_append_mk]; rfl
      have G2 : Hid (mtG f (q / 10) (y :: out) = R) := by
        unfold Hid
        rw [← hG.out, mtG, if_neg (by omega), hy]
      have B2 : Hid (Below w.heap.size w (wr.alloc (.cells #[.int .u8 (48 + (q : Int) % 10)] 5))) := hBl.out.alloc hBl.out.size _
      clear hy ed
      go_wp2
      go_roundw
      case rel => exact ⟨f, q / 10, y :: out, by omega, by omega, by rw [List.length_cons]; omega, congrArg (Value.int .i64) (by omega), rfl, G2, B2⟩
      case measure => simp [intOf]; omega
    · have g1 : decide (0 < q) = false := by simpa using c
      have g1' : decide ((0 : Int) < (q : Int)) = false := by simp; omega
      have q0 : q = 0 := by omega
      have eo : out = R := by rw [← hG.out, q0]; rfl
      subst eo
      have sz : ¬ ((⟨#[109]⟩ : ByteArray).size + (⟨out.toArray⟩ : ByteArray).size > 9223372036854775807) := by simp [ByteArray.size]; omega
      have ap : (⟨#[109]⟩ : ByteArray) ++ ⟨out.toArray⟩ = ⟨(109 :: out).toArray⟩ := by rw [show (⟨#[109]⟩ : ByteArray) = ⟨[109].toArray⟩ from rfl, ByteArray.mk_append_mk]; rfl
      clear hG
      go_wp2
      go_ret
      exact ⟨by rw [E.out]; rfl, hBl.out⟩

/-- The texts k, k + 1, .. -/
def marksS (k : Nat) (n : Nat) : List ByteArray := (List.range n).map (fun i => mtext (k + i))
theorem marksS_length (k n : Nat) : (marksS k n).length = n := by simp [marksS]
theorem marksS_getD (k n i : Nat) (h : i < n) : (marksS k n).getD i ByteArray.empty = mtext (k + i) := by simp [marksS, List.getD, h]
theorem marksS_set (k : Nat) (ss : List ByteArray) (j : Nat) (h : j < ss.length) : (marksS k j ++ ss.drop j).set j (mtext (k + j)) = marksS k (j + 1) ++ ss.drop (j + 1) := by
  rw [List.set_append_right _ _ (by simp [marksS_length]), marksS_length, Nat.sub_self, List.drop_eq_getElem_cons h, List.set_cons_zero]
  simp [marksS, List.range_succ]

/-- Marking a slice of the call's own. -/
theorem mark_ownS (w : World) (B : Nat) (v : Value) (ss : List ByteArray) (k : Nat) (h : Strs w B v ss) (k0 : 1 ≤ k) (k1 : k + ss.length ≤ 10000000) :
    Calls Try.prog 23 #[v, .int .i64 k] w fun e w' => e = .returned (.int .i64 ((k + ss.length : Nat) : Int)) ∧ Strs w' B v (marksS k ss.length) ∧ w.grownBy w' v.ownBlock := by
  have H := Lib.hid h
  obtain ⟨n, hn⟩ : ∃ n, ss.length = n := ⟨_, rfl⟩
  obtain ⟨_, ⟨rfl, h2⟩ | ⟨g, cap, cur, rfl, h3, h4, h5, h6, h7, h8⟩⟩ := id h
  · obtain rfl := List.length_eq_zero_iff.1 h2
    clear hn k1 h2 h
    go_enter Try.func23, Try.ntmps23
    go_wp2
    refine wp_loop_rounds 1 ?_
    rw [rounds_succ]
    go_wp2
    go_ret
    exact ⟨ret_i _ _ (by simp), H.out, ⟨rfl, rfl, rfl, Nat.le_refl _, fun _ _ _ => rfl⟩⟩
  · have hgw := (Array.getElem?_eq_some_iff.1 h4).1
    clear h3 h4 h5 h6 h7 h8 h
    have HN := Lib.hid hn
    unfold Strs at H
    rw [hn] at H k1 ⊢
    have hS : Hid (w.ownsRow B 9 1 (.slice (some ⟨g, 0, none⟩) n cap) n ((marksS k 0 ++ ss.drop 0).map Value.string)) := by simpa [marksS] using H
    clear hn
    go_enter Try.func23, Try.ntmps23
    go_wp2
    go_loopw [1, 5] (fun u i wr => ∃ j : Nat, j ≤ n ∧ i = .int .i64 j ∧ u = .int .i64 ((k + j : Nat) : Int) ∧ Hid (wr.ownsRow B 9 1 (.slice (some ⟨g, 0, none⟩) n cap) n ((marksS k j ++ ss.drop j).map Value.string)) ∧ Hid (w.grownBy wr (some g))) (fun _ i _ => n - (intOf i).toNat)
    case atStart => exact ⟨0, Nat.zero_le _, rfl, by simp, hS, ⟨rfl, rfl, rfl, Nat.le_refl _, fun _ _ _ => rfl⟩⟩
    case round =>
      obtain ⟨j, hj, rfl, rfl, ho, hg⟩ := hrel
      by_cases hlt : j < n
      · have g1 : decide (j < n) = true := by simpa using hlt
        have i1 : (0 : Int) ≤ (j : Int) := by omega
        have i2 : (j : Int) < (n : Int) := by omega
        obtain ⟨q, hq⟩ : ∃ q, k + j = q := ⟨_, rfl⟩
        have e1 := IntWalk.i64_in ((j : Int) + 1) (by omega)
        have e2 := IntWalk.i64_in ((q : Int) + 1) (by omega)
        rw [hq]
        have hp' : k + j ≤ 100000000 := by omega
        have HMT := Lib.hid (mark_text q wr (by omega))
        have HQ := Lib.hid hq
        clear hq hp'
        go_wp2_with fail
        refine HMT.out.mono ?_
        rintro e w4 ⟨rfl, b4⟩
        have ho4 : Hid (w4.ownsRow B 9 1 (.slice (some ⟨g, 0, none⟩) n cap) n ((marksS k j ++ ss.drop j).map Value.string)) := World.ownsRow.kept (row := none) ho.out ⟨b4.os, b4.tape, b4.output, b4.size, fun i hi _ => b4.block i hi⟩ (by simp [Value.ownBlock])
        have hg4 : Hid (w.grownBy w4 (some g)) := by
          have a := hg.out
          exact ⟨b4.os.trans a.os, b4.tape.trans a.tape, b4.output.trans a.output, Nat.le_trans a.size b4.size, fun i hi hne => (b4.block i (Nat.lt_of_lt_of_le hi a.size)).trans (a.block i hi hne)⟩
        obtain ⟨y, hy⟩ : ∃ y, mtext q = y := ⟨_, rfl⟩
        rw [hy]
        obtain ⟨old, hold⟩ : ∃ old, w4.cell? ⟨g, j, none⟩ = some old := by
          rw [ho4.out.cellAt j (by omega), List.getElem?_eq_getElem (by have := ho4.out.1; omega)]; exact ⟨_, rfl⟩
        have hf : w4.frozen? ⟨g, j, none⟩ = false := ho4.out.frozenAt j
        have hst := ho4.out.stored j (.string y)
        have S1 : Hid ((w4.setCell ⟨g, j, none⟩ (.string y)).ownsRow B 9 1 (.slice (some ⟨g, 0, none⟩) n cap) n ((marksS k (j + 1) ++ ss.drop (j + 1)).map Value.string)) := by
          have := hst.1
          rw [← List.map_set, ← hy, ← HQ.out, marksS_set k ss j (by rw [HN.out]; exact hlt), HQ.out, hy] at this
          exact this
        have S2 : Hid (w.grownBy (w4.setCell ⟨g, j, none⟩ (.string y)) (some g)) := by
          have q1 := hg4.out
          have q3 := hst.2
          exact ⟨q3.os.trans q1.os, q3.tape.trans q1.tape, q3.output.trans q1.output, Nat.le_trans q1.size q3.size, fun i hi hne => (q3.block i (by have := q1.size; omega) hne).trans (q1.block i hi hne)⟩
        clear hst hy b4
        go_wp2
        go_roundw
        case rel => exact ⟨j + 1, by omega, by go_num, congrArg (Value.int .i64) (by have := HQ.out; omega), S1, S2⟩
        case measure => simp [intOf]; omega
      · have g1 : decide (j < n) = false := by simpa using hlt
        obtain rfl : j = n := by omega
        go_wp2
        go_ret
        refine ⟨rfl, ?_, hg.out⟩
        have := ho.out
        rw [← HN.out, List.drop_length, List.append_nil] at this
        unfold Strs
        rw [marksS_length, ← HN.out]
        exact this

theorem KeepsS.next {w w' w'' : World} {g j : Nat} {x : ByteArray} (h : w'.cell? ⟨g, j, none⟩ = some (.string x) ∧ Hid (Below w.heap.size w w')) (hb : Below w'.heap.size w' w'') :
    w''.cell? ⟨g, j, none⟩ = some (.string x) ∧ Hid (Below w.heap.size w w'') :=
  ⟨(hb.cell (p := ⟨g, j, none⟩) (World.block_lt_of_cell? w' _ h.1)).trans h.1, h.2.out.trans (hb.mono h.2.out.size)⟩

/-- Marks are found again. -/
theorem held_marksS (w : World) (v : Value) (k n : Nat) (hv : StrsAt w v (marksS k n)) (k0 : 1 ≤ k) (k1 : k + n ≤ 10000000) :
    Calls Try.prog 24 #[v, .int .i64 k] w fun e w' => e = .returned (.int .i64 ((k + n : Nat) : Int)) ∧ Below w.heap.size w w' := by
  obtain ⟨a, cap, rfl, hc⟩ := hv.shape
  rw [marksS_length] at hc ⊢
  have HC := Lib.hid (show ∀ j, j < n → ∃ g off, a = some ⟨g, off, none⟩ ∧ g < w.heap.size ∧ w.cell? ⟨g, off + j, none⟩ = some (.string (mtext (k + j))) from fun j hj => by
    obtain ⟨g, off, h1, h2⟩ := hc j hj
    rw [marksS_getD k n j hj] at h2
    exact ⟨g, off, h1, World.block_lt_of_cell? w _ h2, h2⟩)
  clear hc hv
  go_enter Try.func24, Try.ntmps24
  go_wp2
  go_loopw [1, 5] (fun u i wr => ∃ j : Nat, j ≤ n ∧ i = .int .i64 j ∧ u = .int .i64 ((k + j : Nat) : Int) ∧ Hid (Below w.heap.size w wr)) (fun _ i _ => n - (intOf i).toNat)
  case atStart => exact ⟨0, Nat.zero_le _, rfl, by simp, Below.refl _ _⟩
  case round =>
    obtain ⟨j, hj, rfl, rfl, hBl⟩ := hrel
    by_cases hlt : j < n
    · have g1 : decide (j < n) = true := by simpa using hlt
      obtain ⟨g, off, rfl, hg, c0⟩ := HC.out j hlt
      have i1 : (0 : Int) ≤ (j : Int) := by omega
      have i2 : (j : Int) < (n : Int) := by omega
      obtain ⟨q, hq⟩ : ∃ q, k + j = q := ⟨_, rfl⟩
      have e1 := IntWalk.i64_in ((j : Int) + 1) (by omega)
      have e2 := IntWalk.i64_in ((q : Int) + 1) (by omega)
      rw [hq] at c0 ⊢
      have k1' : 1 ≤ q ∧ q ≤ 100000000 := by omega
      have HMT := Lib.hid (fun W => mark_text q W k1')
      obtain ⟨y, hy⟩ : ∃ y, mtext q = y := ⟨_, rfl⟩
      rw [hy] at c0
      simp only [hy] at HMT
      obtain ⟨off', ho'⟩ : ∃ off', off + j = off' := ⟨_, rfl⟩
      rw [ho'] at c0
      have cx : wr.cell? ⟨g, off', none⟩ = some (.string y) := (hBl.out.cell (p := ⟨g, off', none⟩) hg).trans c0
      have t2 : (y.toList == y.toList) = true := by simp
      have HQ := Lib.hid hq
      have HO := Lib.hid ho'
      obtain ⟨k1a, k1b⟩ := k1'
      clear hq c0 hy hg
      go_wp2
      refine wp_region_held_drew (S := (fun w' => w'.cell? ⟨g, off', none⟩ = some (.string y) ∧ Hid (Below w.heap.size w w'))) (by kernel_rfl) ?_ (fun hHeld => ?_)
      · exact ⟨cx, hBl.out.drew⟩
      refine wpAnyH_take (i := 0) (oi := { dst := some 12, op := Op.move (Operand.tmp 0), type := 34, pos := "exact.go:133", after := #[], guard := none }) (v := ?_) rfl (by kernel_rfl) (by kernel_rfl) (by kernel_rfl) (fun _ _ _ h => h) (Or.inl ⟨by rfl, ?_⟩) (by assumption) ?_
      rotate_left
      · intro w hSw; (try dsimp only at hSw); go_simp
        try with_reducible rfl
      simp only [Act.put, List.setIfInBounds_toArray, List.set_cons_zero, List.set_cons_succ]
      refine wpAnyH_take (i := 1) (oi := { dst := some 13, op := Op.move (Operand.tmp 5), type := 3, pos := "exact.go:133", after := #[], guard := none }) (v := ?_) rfl (by kernel_rfl) (by kernel_rfl) (by kernel_rfl) (fun _ _ _ h => h) (Or.inl ⟨by rfl, ?_⟩) (by assumption) ?_
      rotate_left
      · intro w hSw; (try dsimp only at hSw); go_simp
        try with_reducible rfl
      simp only [Act.put, List.setIfInBounds_toArray, List.set_cons_zero, List.set_cons_succ]
      refine wpAnyH_take (i := 2) (oi := { dst := some 14, op := Op.indexAddr 34 (Operand.tmp 12) (Operand.tmp 13), type := 0, pos := "exact.go:133", after := #[{ on := 0, ground := Ground.data }, { on := 1, ground := Ground.data }], guard := none }) (v := ?_) rfl (by kernel_rfl) (by kernel_rfl) (by kernel_rfl) (fun _ _ _ h => h) (Or.inl ⟨by rfl, ?_⟩) (by assumption) ?_
      rotate_left
      · intro w hSw; (try dsimp only at hSw); go_simp
        try with_reducible rfl
      simp only [Act.put, List.setIfInBounds_toArray, List.set_cons_zero, List.set_cons_succ]
      refine wpAnyH_take (i := 3) (oi := { dst := some 15, op := Op.load 9 (Operand.tmp 14), type := 9, pos := "exact.go:133", after := #[{ on := 2, ground := Ground.data }], guard := none }) (v := ?_) rfl (by kernel_rfl) (by kernel_rfl) (by kernel_rfl) (fun _ _ _ h => h) (Or.inl ⟨by rfl, ?_⟩) (by assumption) ?_
      rotate_left
      · intro w hSw; (try dsimp only at hSw); go_simp
        try with_reducible rfl
      simp only [Act.put, List.setIfInBounds_toArray, List.set_cons_zero, List.set_cons_succ]
      refine wpAnyH_take (i := 4) (oi := { dst := some 16, op := Op.move (Operand.tmp 1), type := 3, pos := "exact.go:133", after := #[], guard := none }) (v := ?_) rfl (by kernel_rfl) (by kernel_rfl) (by kernel_rfl) (fun _ _ _ h => h) (Or.inl ⟨by rfl, ?_⟩) (by assumption) ?_
      rotate_left
      · intro w hSw; (try dsimp only at hSw); go_simp
        try with_reducible rfl
      simp only [Act.put, List.setIfInBounds_toArray, List.set_cons_zero, List.set_cons_succ]
      refine wpAnyH_ready (rs := [5]) (by kernel_rfl) (by simp) ?_
      refine AllReadyH.cons rfl (fun K hK => ?_) AllReadyH.nil
      go_simp
      go_wp2_with (go_at_call 48; refine (HMT.out _).mono ?_; rintro e w4 ⟨rfl, hb4⟩; have hS4 := KeepsS.next hHeld hb4; clear hHeld)
      refine hK.out _ _ ?_ (fun hHeld => ?_)
      · exact hS4
      clear hK K
      refine wpAnyH_take (i := 6) (oi := { dst := some 18, op := Op.binOp BinOp.neq 9 (Operand.tmp 15) (Operand.tmp 17) 9, type := 4, pos := "exact.go:133", after := #[{ on := 3, ground := Ground.data }, { on := 5, ground := Ground.data }], guard := none }) (v := ?_) rfl (by kernel_rfl) (by kernel_rfl) (by kernel_rfl) (fun _ _ _ h => h) (Or.inl ⟨by rfl, ?_⟩) (by assumption) ?_
      rotate_left
      · intro w hSw; (try dsimp only at hSw); go_simp
        try with_reducible rfl
      simp only [Act.put, List.setIfInBounds_toArray, List.set_cons_zero, List.set_cons_succ]
      refine wpAnyH_done (by kernel_rfl) ?_ _
      have SB4 : Hid (Below w.heap.size w w4) := hS4.2
      clear hS4 cx
      go_wp2
      go_roundw
      case rel => exact ⟨j + 1, by omega, by go_num, congrArg (Value.int .i64) (by have := HQ.out; omega), SB4⟩
      case measure => simp [intOf]; omega
    · have g1 : decide (j < n) = false := by simpa using hlt
      obtain rfl : j = n := by omega
      go_wp2
      go_ret
      exact ⟨rfl, hBl.out⟩
end Go.Proofs.Ytocjdjgfadaljaa
