/- The program's cycles, an iterator: its contract. -/
import Derived.RangeFuncNested
import Derived.RangeFuncBound
import Derived.RangeFuncCalls
import Derived.RangeFuncLeaves
import Derived.RangeFuncRecord
import Derived.Shelf.Abstract
import Derived.WalkKit
import Derived.OwnWalkIn
import Derived.TacticsInMore
import Derived.LoopNIn
import Derived.LoopIn
import Derived.Test.YtcgmencdadinbaaCyc
import Derived.Test.YtcgmencdadinbaaRowp
import Derived.Test.YtcgmencdadinbaaIm
namespace Go.Proofs.Ytcgmencdadinbaa
open Go.RowKit Go.Shelf
set_option linter.unusedVariables false
attribute [local go_sem] Oper.semAt_some

/-- 'xs = append(xs, y)' inside a fence. -/
theorem wpListIn_push {F : Fence} {n : Nat} {ops : Array Oper} {rest : List Oper} {o : Oper} {a : Act} {Q : Exit → Act → World → Prop} (w : World) (hgd : o.guard = none) (s x : Operand)
    (ho : o.op = .call { callee := .builtin .append, args := #[s, x], argTypes := #[22, 22] })
    (B : Nat) (v : Value) (xs : List Int) (hs : a.eval s = v) (h : Ints w B v xs) (y : Int) (T : TypeId) (hx : a.eval x = .slice (some ⟨w.heap.size, 0, none⟩) 1 1)
    (hl : xs.length < 1000000000000) (hB : B ≤ w.heap.size)
    (hK : ∀ v' w', Ints w' B v' (xs ++ [y]) → Below B w w' → wpListIn F n Try.prog ops Q rest (a.put o.dst v') w') :
    wpListIn F n Try.prog ops Q (o :: rest) a (w.alloc (.cells #[.int .i64 y] T)) := by
  obtain ⟨i0, hi, hz0, hz1, hz2⟩ := info_parts Try.infoInt
  refine wpListIn_append_own _ hgd s x 22 ho B 2 i0 (.int .i64 0) 1 8 Try.underlying22 hi hz0 hz1 hz2 rfl (by decide) v xs.length _ hs (h.alloc _) ⟨w.heap.size, 0, none⟩ 1 1 [.int .i64 y] hx rfl ?c1 ?c2 ?c3 ?c4 ?c5 ?_
  case c1 =>
    intro j z hj
    match j, hj with
    | 0, hj => simp at hj; subst hj; simp [Addr.add]
  case c2 => intro z hz; simp at hz; subst hz; rfl
  case c3 => unfold maxLen; omega
  case c4 => omega
  case c5 => simp; omega
  intro v' w' h' hg _
  refine hK v' w' ?_ (((Below.refl _ _).alloc hB _).grown hg (by simp; omega) (fun k hk => (World.ownsRow.lt h k hk).1))
  unfold Ints
  rw [List.length_append, List.map_append]
  exact h'

/-- The cycles that were handed over: slices of the iterator's own, apart. -/
structure Cycs (n₀ : Nat) (W : World) (Own : Nat → Prop) (pre : List (Value × List Int)) : Prop where
  rows : ∀ x ∈ pre, IntsL W n₀ W.heap.size x.1 x.2
  apart : List.Pairwise (fun x y => x.1.ownBlock = none ∨ x.1.ownBlock ≠ y.1.ownBlock) pre
  free : ∀ x ∈ pre, ∀ k, x.1.ownBlock = some k → ¬ Own k
theorem Cycs.nil (n₀ : Nat) (W : World) (Own : Nat → Prop) : Cycs n₀ W Own [] := ⟨fun x h => (by cases h), List.Pairwise.nil, fun x h => (by cases h)⟩
/-- Where the blocks of the cycles lie as they lay. -/
theorem Cycs.keep {n₀ : Nat} {W W' : World} {Own Own' : Nat → Prop} {pre : List (Value × List Int)} (h : Cycs n₀ W Own pre) (hs : W.heap.size ≤ W'.heap.size)
    (hb : ∀ x ∈ pre, ∀ k, x.1.ownBlock = some k → W'.heap[k]? = W.heap[k]?) (ho : ∀ k, k < W.heap.size → ¬ Own k → ¬ Own' k) : Cycs n₀ W' Own' pre :=
  ⟨fun x hx => ⟨ownsRow_of_block (h.rows x hx).1 (hb x hx), fun k e => Nat.lt_of_lt_of_le ((h.rows x hx).2.1 k e) hs, Nat.le_refl _⟩, h.apart,
   fun x hx k e => ho k ((h.rows x hx).2.1 k e) (h.free x hx k e)⟩
theorem Cycs.snoc {n₀ B : Nat} {W : World} {Own : Nat → Prop} {pre : List (Value × List Int)} {x : Value × List Int} (h : Cycs n₀ W Own pre) (hx : IntsL W n₀ W.heap.size x.1 x.2)
    (hB : ∀ y ∈ pre, ∀ k, y.1.ownBlock = some k → k < B) (hxB : ∀ k, x.1.ownBlock = some k → B ≤ k) (hn : ∀ k, x.1.ownBlock = some k → ¬ Own k) : Cycs n₀ W Own (pre ++ [x]) := by
  refine ⟨fun y hy => ?_, ?_, fun y hy => ?_⟩
  · rcases List.mem_append.1 hy with hy | hy
    · exact h.rows y hy
    · rw [List.mem_singleton.1 hy]; exact hx
  · rw [List.pairwise_append]
    refine ⟨h.apart, List.pairwise_singleton _ _, fun y hy z hz => ?_⟩
    rw [List.mem_singleton.1 hz]
    cases e : y.1.ownBlock with
    | none => exact .inl rfl
    | some k =>
      refine .inr (fun e2 => ?_)
      have := hB y hy k e
      have := hxB k e2.symm
      omega
  · rcases List.mem_append.1 hy with hy | hy
    · exact h.free y hy
    · rw [List.mem_singleton.1 hy]; exact hn

/-- What holds between two rounds. -/
structure ItSt (w : World) (n₀ n₁ s : Nat) (J : List (Value × List Int) → (Nat → Prop) → World → Prop) (ps : List Int) (j : Nat) (wr : World) (pre : List (Value × List Int)) (Own : Nat → Prop) : Prop where
  map : pre.map Prod.snd = (cst ps j).2
  jj : J pre Own wr
  seen : Ba wr 54 s 32 (inL (cst ps j).1)
  bel : Below n₁ w wr
  cyc : Cycs n₀ wr Own pre
  own : ∀ k, Own k → k < wr.heap.size
  ns : ¬ Own s

theorem cst_pre (ps : List Int) (i : Nat) : ∀ k, (cst ps i).2 <+: (cst ps (i + k)).2
  | 0 => List.prefix_refl _
  | k + 1 => by
    refine (cst_pre ps i k).trans ?_
    show _ <+: (cst ps ((i + k) + 1)).2
    by_cases e : ((i + k : Nat) : Int) ∈ (cst ps (i + k)).1
    · rw [cst_skip e]; exact List.prefix_refl _
    · rw [(cst_go e).2]; exact List.prefix_append _ _
theorem Ints.own {w w' : World} {B : Nat} {v : Value} {xs : List Int} (h : Ints w B v xs) (hb : ∀ k, v.ownBlock = some k → w'.heap[k]? = w.heap[k]?) : Ints w' B v xs := ownsRow_of_block h hb
theorem Ints.ne_ba {w : World} {B s q : Nat} {T : TypeId} {v : Value} {xs : List Int} {c : Nat → Bool} (h : Ints w B v xs) (hb : Ba w T s q c) (hT : T ≠ 2) (e : v.ownBlock = some s) : False := by
  obtain ⟨_, ⟨rfl, _⟩ | ⟨g, cap, cur, rfl, _, q2, _⟩⟩ := h
  · simp [Value.ownBlock] at e
  · simp only [Value.ownBlock, Option.some.injEq] at e
    subst e
    rw [hb] at q2
    simp only [Option.some.injEq, Obj.cells.injEq] at q2
    exact hT q2.2.1

/-- What the loop's body owes at a cycle: it keeps what is not its own. -/
def BodyOk (w : World) (n₀ n₁ l n : Nat) (J : List (Value × List Int) → (Nat → Prop) → World → Prop) (ps : List Int) : Prop :=
  ∀ (pre : List (Value × List Int)) (Own : Nat → Prop) (x : Value × List Int) (W : World), J pre Own W → (pre ++ [x]).map Prod.snd <+: cyclesL ps → x.2.length ≤ ps.length → Below n₁ w W → IntsL W n₀ W.heap.size x.1 x.2 →
    (∀ k, x.1.ownBlock = some k → ¬ Own k) → (∀ k, Own k → k < W.heap.size) →
    YieldAt Fence.wide (n - 1) Try.prog l #[x.1] W fun e W' => e = .returned (.bool true) ∧ ∃ Own' : Nat → Prop, (∀ k, Own' k → Own k ∨ W.heap.size ≤ k) ∧ (∀ k, Own' k → k < W'.heap.size) ∧ J (pre ++ [x]) Own' W' ∧ Below n₁ W W' ∧
      ∀ k, n₀ ≤ k → k < W.heap.size → ¬ Own k → W'.heap[k]? = W.heap[k]?

set_option maxRecDepth 100000 in
set_option maxHeartbeats 4000000 in
theorem icycles (w : World) (v : Value) (ps : List Int) (n l n₀ n₁ : Nat) (h01 : n₁ ≤ n₀) (HV0 : ∀ W, Below n₁ w W → IntsC W v ps) (hp : pmB ps = true)
    (J : List (Value × List Int) → (Nat → Prop) → World → Prop)
    (hJ : ∀ pre Own W W', J pre Own W → Below n₀ W W' → (∀ k, Own k → W'.heap[k]? = W.heap[k]?) → J pre Own W')
    (hY : BodyOk w n₀ n₁ l n J ps) (W0 : World) (Own0 : Nat → Prop) (hb0 : Below n₁ w W0) (hs0 : n₀ ≤ W0.heap.size) (ho0 : ∀ k, Own0 k → k < W0.heap.size) (h0 : J [] Own0 W0) :
    CallsIn Fence.wide n Try.prog 65 #[v, .func (.yield l) #[] #[]] W0 fun e W' => (∃ r, e = .returned r) ∧ ∃ pre Own, pre.map Prod.snd = cyclesL ps ∧ J pre Own W' ∧ Below n₁ w W' ∧ Cycs n₀ W' Own pre := by
  have P01 := Lib.hid (perm01 hp)
  have hl32 := (of_pmB hp).1
  have HV := Lib.hid HV0
  have HY := Lib.hid hY
  have HJ := Lib.hid hJ
  have HIM : Hid (∀ (W : World) (t : Nat), Below n₁ w W → t < ps.length → Calls Try.prog 86 #[v, .int .i64 t] W fun e w' => e = .returned (.int .i64 (ps.getD t 0)) ∧ w' = W) := fun W t hb ht => iimage W v ps (HV0 W hb).1 t ht (by omega)
  have CL : Hid (cyclesL ps = (cst ps ps.length).2) := rfl
  have COK : Hid (∀ j, j ≤ ps.length → SeenOk ps.length (cst ps j).1 ∧ tot (cst ps j).2 = (cst ps j).1.length ∧ (cst ps j).2.length ≤ j) := fun j hj => cst_ok P01.out j hj
  obtain ⟨a, cap, rfl⟩ := (HV0 W0 hb0).shape
  obtain ⟨m, hm⟩ : ∃ m, ps.length = m := ⟨_, rfl⟩
  have HM := Lib.hid hm
  have HB0 := Lib.hid hb0
  have H0 := Lib.hid h0
  have HO0 := Lib.hid ho0
  rw [hm] at hl32 HIM ⊢
  clear hm HV0 hY hJ h0 ho0 hb0 hp
  refine callsIn_of_wp Try.func65 rfl trivial ?_ rfl
  simp only [Try.ntmps65, List.size_toArray, List.length_cons, List.length_nil, Nat.reduceAdd, Nat.reduceSub, Array.replicate_succ, Array.replicate_zero, List.push_toArray, List.append_toArray, List.nil_append, List.cons_append]
  gi_wp2
  generalize hwo : W0.alloc _ = wo
  obtain ⟨s, hs⟩ : ∃ s, W0.heap.size = s := ⟨_, rfl⟩
  have ST0 : Hid (ItSt w n₀ n₁ s J ps 0 wo [] Own0) := by
    have b : Below W0.heap.size W0 wo := by rw [← hwo]; exact (Below.refl _ _).alloc (Nat.le_refl _) _
    refine ⟨rfl, HJ.out _ _ _ _ H0.out (b.mono hs0) (fun k hk => b.block k (HO0.out k hk)), ?_, HB0.out.trans (b.mono (by omega)), Cycs.nil _ _ _, fun k hk => Nat.lt_of_lt_of_le (HO0.out k hk) b.size, fun h => by have := HO0.out s h; omega⟩
    unfold Ba
    rw [← hs, ← hwo, heap_alloc_new]
    show _ = some (Obj.cells (bar 32 (inL [])) _ _)
    rw [inL_nil]; rfl
  have n0s : n₀ ≤ s := by omega
  rw [hs]
  clear hwo hs hs0 HB0 HO0 H0
  gi_loopw [10] (fun i wr => ∃ (j : Nat) (pre : List (Value × List Int)) (Own : Nat → Prop), j ≤ m ∧ i = .int .i64 j ∧ Hid (ItSt w n₀ n₁ s J ps j wr pre Own)) (fun i _ => m - (intOf i).toNat)
  case atStart => exact ⟨0, [], Own0, by omega, rfl, ST0⟩
  case round =>
    obtain ⟨j, pre, Own, hj, rfl, hS⟩ := hrel
    by_cases c : j < m
    · have k1 : decide (j < m) = true := by simpa using c
      have k1' : decide ((j : Int) < (m : Int)) = true := decide_eq_true (by omega)
      have j0 : (0 : Int) ≤ (j : Int) := by omega
      have j1 : (j : Int) < 32 := by omega
      have w3 := IntWalk.i64_in ((j : Int) + 1) (by omega)
      have cj := hS.out.seen.cell j (by omega)
      obtain ⟨b, hb⟩ : ∃ b, inL (cst ps j).1 j = b := ⟨_, rfl⟩
      rw [hb] at cj
      cases b with
      | true =>
        have S2 : Hid (ItSt w n₀ n₁ s J ps (j + 1) wr pre Own) := by
          have e := cst_skip (of_decide_eq_true hb)
          have h := hS.out
          exact ⟨by rw [e]; exact h.map, h.jj, by rw [e]; exact h.seen, h.bel, h.cyc, h.own, h.ns⟩
        clear hb
        gi_wp2
        go_roundw
        case rel => exact ⟨j + 1, pre, Own, by omega, by go_num, S2⟩
        case measure => simp [intOf]; omega
      | false =>
        have hn : ¬ (j : Int) ∈ (cst ps j).1 := of_decide_eq_false hb
        have GO := Lib.hid (cst_go hn)
        have CJ := Lib.hid (COK.out j (by have := HM.out; omega)).1
        clear hb hn
        obtain ⟨wc, rfl⟩ : ∃ wc : World, wc = wr := ⟨_, rfl⟩
        have s1 : s < wc.heap.size := hS.out.seen.lt
        gi_wp2
        gi_loopw [6, 7] (fun cv xv wi => ∃ (acc : List Int) (x : Int), xv = .int .i64 x ∧ Hid (Ints wi wc.heap.size cv acc) ∧ Hid (Ba wi 54 s 32 (inL ((cst ps j).1 ++ acc))) ∧ Hid (InWalk ps (cst ps j).1 j acc x) ∧ Hid (wc.grownBy wi (some s))) (fun cv _ _ => m + 1 - lenV cv)
        case atStart => exact ⟨[], j, rfl, nilI _ _, by unfold Hid; rw [List.append_nil]; exact hS.out.seen, InWalk.start CJ.out (by have := HM.out; omega), grown_refl _ _⟩
        case round =>
          obtain ⟨acc, x, rfl, hI, hB, hW, hG⟩ := hrel
          have hx := hW.out.xr
          rw [HM.out] at hx
          obtain ⟨t, rfl⟩ : ∃ t : Nat, x = t := ⟨x.toNat, by omega⟩
          have t0 : (0 : Int) ≤ (t : Int) := by omega
          have t1 : (t : Int) < 32 := by omega
          have ct := hB.out.cell t (by omega)
          have hf := hB.out.frozen t
          have sz := hG.out.size
          have lv := hI.out.lenV
          obtain ⟨b, hb⟩ : ∃ b, inL ((cst ps j).1 ++ acc) t = b := ⟨_, rfl⟩
          rw [hb] at ct
          cases b with
          | false =>
            have hn : ¬ (t : Int) ∈ (cst ps j).1 ++ acc := of_decide_eq_false hb
            have N := Lib.hid (hW.out.next P01.out hn)
            have R := hW.out.room hn
            rw [HM.out] at R
            obtain ⟨y, hy⟩ : ∃ y, ps.getD t 0 = y := ⟨_, rfl⟩
            rw [hy] at N
            have I2 : Hid (Ints (wr.setCell ⟨s, t, none⟩ (.bool true)) wc.heap.size u6 acc) := hI.out.setOther s1
            have B2 : Hid (Ba (wr.setCell ⟨s, t, none⟩ (.bool true)) 54 s 32 (inL ((cst ps j).1 ++ (acc ++ [(t : Int)])))) := by
              have := hB.out.set t true
              rw [inL_snoc (x := (t : Int)) rfl, List.append_assoc] at this
              exact this
            have G2 : Hid (wc.grownBy (wr.setCell ⟨s, t, none⟩ (.bool true)) (some s)) := grown_set hG.out
            have z2 : wc.heap.size ≤ (wr.setCell ⟨s, t, none⟩ (.bool true)).heap.size := G2.out.size
            have KIM : Hid (∀ W, Below wc.heap.size (wr.setCell ⟨s, t, none⟩ (.bool true)) W → Calls Try.prog 86 #[.slice a m cap, .int .i64 t] W fun e w' => e = .returned (.int .i64 y) ∧ w' = W) := fun W hb2 => by
              have := HIM.out W t (hS.out.bel.trans (below_of_hole (grown_below G2.out hb2 (Nat.le_refl _)) (by omega) (by omega))) (by omega)
              rw [hy] at this
              exact this
            clear hb hn hy
            obtain ⟨wq, hwq⟩ : ∃ wq, wr.setCell ⟨s, t, none⟩ (.bool true) = wq := ⟨_, rfl⟩
            rw [hwq] at I2 B2 G2 KIM z2
            gi_wp2_with (gi_at_builtin; refine wpListIn_push wq (by rfl) _ _ (by rfl) wc.heap.size _ _ (by rfl) I2.out t _ (by rfl) (by omega) z2 ?_; intro v' w6 hn hb; have HN' := Lib.hid hn; have HB2 := Lib.hid hb; have HI3 := Lib.hid (KIM.out w6 hb); clear hn hb)
            refine ⟨trivial, fun h => (by cases h), ?_⟩
            refine (callsIn_wide.2 HI3.out).mono ?_
            rintro e w4 ⟨rfl, rfl⟩
            have lv2 := HN'.out.lenV
            rw [List.length_append] at lv2
            simp only [List.length_cons, List.length_nil] at lv2
            gi_wp2
            go_roundw
            case rel => exact ⟨acc ++ [(t : Int)], y, rfl, HN', B2.out.below HB2.out s1, N, grown_below G2.out HB2.out (Nat.le_refl _)⟩
            case measure => omega
          | true =>
            have A := Lib.hid (hW.out.stop (of_decide_eq_true hb))
            have h := hS.out
            have bw : Below n₀ wc wr := below_of_hole hG.out (by omega) (by omega)
            have jw : J pre Own wr := HJ.out _ _ _ _ h.jj bw (fun k hk => hG.out.block k (h.own k hk) (fun e => by cases e; exact h.ns hk))
            have fr : ∀ k, u6.ownBlock = some k → ¬ Own k := fun k e ho => by have := (World.ownsRow.lt hI.out k e).1; have := h.own k ho; omega
            have il : IntsL wr n₀ wr.heap.size u6 acc := (hI.out.mono (by omega)).lim
            have pf : (pre ++ [(u6, acc)]).map Prod.snd <+: cyclesL ps := by
              rw [List.map_append, h.map, List.map_singleton]
              have e := GO.out.2
              rw [← A.out] at e
              show (cst ps j).2 ++ [acc] <+: _
              rw [← e, CL.out]
              obtain ⟨d, hd⟩ : ∃ d, ps.length = (j + 1) + d := ⟨ps.length - (j + 1), by have := HM.out; omega⟩
              rw [hd]
              exact cst_pre ps (j + 1) d
            have CY : Hid (Cycs n₀ wr Own (pre ++ [(u6, acc)])) := by
              refine (h.cyc.keep hG.out.size (fun x hx k e => hG.out.block k ((h.cyc.rows x hx).2.1 k e) (fun e2 => ?_)) (fun k _ hk => hk)).snoc (B := wc.heap.size) il (fun y hy k e => (h.cyc.rows y hy).2.1 k e) (fun k e => (World.ownsRow.lt hI.out k e).1) fr
              cases e2
              exact Ints.ne_ba (h.cyc.rows x hx).1 h.seen (by decide) e
            obtain ⟨fn, tmps, assign, body, hy, hR⟩ := HY.out pre Own (u6, acc) wr jw pf (hW.out.accLen) (h.bel.trans (bw.mono (by omega))) il fr (fun k hk => Nat.lt_of_lt_of_le (h.own k hk) sz)
            have BA := hB.out
            clear hb
            gi_wp2
            refine ⟨fun h => (by cases h), ?_⟩
            refine hR.mono ?_
            rintro e W3 ⟨rfl, Own', ho1, ho2, hJ3, hb3, hk3⟩
            have S3 : Hid (ItSt w n₀ n₁ s J ps (j + 1) W3 (pre ++ [(u6, acc)]) Own') := by
              have sw : s < wr.heap.size := by omega
              refine ⟨?_, hJ3, ?_, (h.bel.trans (bw.mono (by omega))).trans hb3, ?_, ho2, fun hs => ?_⟩
              · rw [List.map_append, h.map, GO.out.2, ← A.out]; rfl
              · rw [GO.out.1, ← A.out]; exact (hk3 s (by omega) sw h.ns).trans BA
              · refine CY.out.keep hb3.size (fun x hx k e => ?_) (fun k hk hn ho => ?_)
                · have r := CY.out.rows x hx
                  exact hk3 k (World.ownsRow.lt r.1 k e).1 (r.2.1 k e) (CY.out.free x hx k e)
                · rcases ho1 k ho with ho | ho
                  · exact hn ho
                  · omega
              · rcases ho1 s hs with hs | hs
                · exact h.ns hs
                · omega
            gi_wp2
            go_roundw
            case rel => exact ⟨j + 1, pre ++ [(u6, acc)], Own', by omega, by go_num, S3⟩
            case measure => simp [intOf]; omega
    · have k1 : decide (j < m) = false := by simpa using c
      have k1' : decide ((j : Int) < (m : Int)) = false := decide_eq_false (by omega)
      obtain rfl : j = m := by omega
      gi_wp2
      go_end0
      have h := hS.out
      exact ⟨⟨_, rfl⟩, pre, Own, by rw [h.map, CL.out, HM.out], h.jj, h.bel, h.cyc⟩
end Go.Proofs.Ytcgmencdadinbaa
