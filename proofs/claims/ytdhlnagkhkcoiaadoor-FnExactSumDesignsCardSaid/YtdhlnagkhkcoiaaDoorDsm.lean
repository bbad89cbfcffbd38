/- Lists in order, by the model (l10Sort): the heads of rows. -/
import Derived.Test.YtdhlnagkhkcoiaaDoorDsv
import Derived.Test.YtdhlnagkhkcoiaaDoorHas
import Derived.Test.YtdhlnagkhkcoiaaDoorDok
import Derived.Test.YtdhlnagkhkcoiaaDoorDst
namespace Go.Proofs.YtdhlnagkhkcoiaaDoor
open Go.RowKit Go.Shelf
set_option linter.unusedVariables false
set_option linter.unusedSimpArgs false

/-- A slice of the call's own that holds the heads of rows. -/
def Hdr (w : World) (B : Nat) (v : Value) (us : List Value) : Prop := w.ownsRow B 60 1 v us.length us ∧ ∀ u ∈ us, u.oneCell' = true
theorem Hdr.below {w w' : World} {B B' : Nat} {v : Value} {us : List Value} (h : Hdr w B v us) (hb : Below B' w w') (hs : w.heap.size ≤ B') : Hdr w' B v us :=
  ⟨ownsRow_of_block h.1 (fun k e => hb.block k (by have := (World.ownsRow.lt h.1 k e).2; omega)), h.2⟩
theorem Hdr.mono {w : World} {B B' : Nat} {v : Value} {us : List Value} (h : Hdr w B v us) (hB : B' ≤ B) : Hdr w B' v us := by
  refine ⟨⟨h.1.1, ?_⟩, h.2⟩
  rcases h.1.2 with h2 | ⟨g, cap, cur, rfl, h3, h4⟩
  · exact .inl h2
  · exact .inr ⟨g, cap, cur, rfl, by omega, h4⟩
/-- 'xs = append(xs, ys...)' of heads. -/
theorem wpList_appendH {ops : Array Oper} {rest : List Oper} {o : Oper} {a : Act} {Q : Exit → Act → World → Prop} (w : World) (hgd : o.guard = none) (s x : Operand)
    (ho : o.op = .call { callee := .builtin .append, args := #[s, x], argTypes := #[22, 22] })
    (B : Nat) (v : Value) (us : List Value) (hs : a.eval s = v) (h : Hdr w B v us) (g k c m : Nat) (news : List Value) (hx : a.eval x = .slice (some ⟨g, k, none⟩) m c) (hm : news.length = m)
    (hc : ∀ j u, news[j]? = some u → w.cell? ⟨g, k + j, none⟩ = some u) (h1 : ∀ u ∈ news, u.oneCell' = true) (hl : us.length + m < 1000000000) (hB : B ≤ w.heap.size)
    (hK : ∀ v' w', Hdr w' B v' (us ++ news) → Below B w w' → w.grownBy w' v.ownBlock → wpList Tryd.prog ops Q rest (a.put o.dst v') w') :
    wpList Tryd.prog ops Q (o :: rest) a w := by
  obtain ⟨i0, hi, hz0, hz1, hz2⟩ := info_parts Tryd.infoRow
  refine wpList_append_own _ hgd s x 22 ho B 60 i0 (.slice none 0 0) 1 24 Tryd.underlying22 hi hz0 hz1 hz2 rfl (by decide) v us.length us hs h.1 ⟨g, k, none⟩ m c news hx (by omega) (fun j u hj => by rw [show (⟨g, k, none⟩ : Addr).add j = ⟨g, k + j, none⟩ by unfold Addr.add; split <;> simp_all]; exact hc j u hj) h1 (by unfold maxLen; omega) (by omega) hB ?_
  intro v' w' h' hg _
  refine hK v' w' ⟨by rw [List.length_append, hm]; exact h', fun u hu => ?_⟩ ((Below.refl _ _).grown hg hB (fun k hk => (World.ownsRow.lt h.1 k hk).1)) hg
  rcases List.mem_append.1 hu with q | q
  · exact h.2 u q
  · exact h1 u q

/-- A row of numbers is not touched by an append of heads. -/
theorem Ints.past {w w' : World} {B J : Nat} {v u : Value} {us : List Value} {x : List Int} (hN : Ints w J u x) (hH : Hdr w B v us) (hg : w.grownBy w' v.ownBlock) : Ints w' J u x := by
  refine ownsRow_of_block hN (fun q e => hg.block q (World.ownsRow.lt hN q e).2 (fun e2 => ?_))
  obtain ⟨_, ⟨rfl, _⟩ | ⟨g1, cap1, cur1, rfl, _, q1, _⟩⟩ := hN
  · simp [Value.ownBlock] at e
  · obtain ⟨⟨_, ⟨rfl, _⟩ | ⟨g2, cap2, cur2, rfl, _, q2, _⟩⟩, _⟩ := hH
    · simp [Value.ownBlock] at e2
    · simp [Value.ownBlock] at e e2
      subst e; subst e2
      rw [q1] at q2
      simp only [Option.some.injEq, Obj.cells.injEq] at q2
      exact absurd q2.2.1 (by decide)

/-- Rows with their heads. -/
def RowsH (w : World) (B L : Nat) (us : List Value) (xss : List (List Int)) : Prop :=
  us.length = xss.length ∧ (∀ j, j < xss.length → IntsL w B L (us.getD j undef) (xss.getD j [])) ∧
    ∀ i j, i < j → j < xss.length → (us.getD i undef).ownBlock = none ∨ (us.getD i undef).ownBlock ≠ (us.getD j undef).ownBlock
theorem IntsL.one {w : World} {B L : Nat} {u : Value} {ys : List Int} (h : IntsL w B L u ys) : u.oneCell' = true := by
  obtain ⟨⟨_, ⟨rfl, _⟩ | ⟨g, cap, cur, rfl, _⟩⟩, _⟩ := h <;> rfl
theorem RowsL.heads {w : World} {B L : Nat} {v : Value} {xss : List (List Int)} (h : RowsL w B L v xss) : ∃ us, Hdr w B v us ∧ RowsH w B L us xss ∧ (∀ k, v.ownBlock = some k → k < L) ∧ L ≤ w.heap.size := by
  obtain ⟨us, e, ho, h1, h2, hr, hd⟩ := h
  refine ⟨us, ⟨by rw [e]; exact ho, fun u hu => ?_⟩, ⟨e, hr, hd⟩, h1, h2⟩
  obtain ⟨i, hi, eu⟩ := List.mem_iff_getElem.1 hu
  have := (hr i (by omega)).one
  rwa [List.getD_eq_getElem?_getD, List.getElem?_eq_getElem hi, Option.getD_some, eu] at this
theorem RowsL.ofHeads {w : World} {B : Nat} {v : Value} {us : List Value} {xss : List (List Int)} (h : Hdr w B v us) (hr : RowsH w B w.heap.size us xss) : RowsL w B w.heap.size v xss :=
  ⟨us, hr.1, by rw [← hr.1]; exact h.1, fun k e => (World.ownsRow.lt h.1 k e).2, Nat.le_refl _, hr.2.1, hr.2.2⟩
theorem RowsH.below {w w' : World} {B L B' : Nat} {us : List Value} {xss : List (List Int)} (h : RowsH w B L us xss) (hb : Below B' w w') (hs : w.heap.size ≤ B') : RowsH w' B L us xss :=
  ⟨h.1, fun j hj => (h.2.1 j hj).below hb hs, h.2.2⟩
theorem Hdr.cell {w : World} {B g c : Nat} {us : List Value} (h : Hdr w B (.slice (some ⟨g, 0, none⟩) us.length c) us) (j : Nat) (u : Value) (hj : us[j]? = some u) : w.cell? ⟨g, j, none⟩ = some u := by
  have hl : j < us.length := (List.getElem?_eq_some_iff.1 hj).1
  rw [h.1.cellAt j (by omega)]
  exact hj
theorem Hdr.shape {w : World} {B : Nat} {v : Value} {us : List Value} (h : Hdr w B v us) : (v = .slice none 0 0 ∧ us = []) ∨ ∃ g c, v = .slice (some ⟨g, 0, none⟩) us.length c ∧ us.length ≤ c ∧ g < w.heap.size ∧ B ≤ g := by
  obtain ⟨⟨e1, ⟨rfl, e2⟩ | ⟨g, cap, cur, rfl, h3, h4, h5, h6⟩⟩, _⟩ := h
  · exact .inl ⟨rfl, List.length_eq_zero_iff.1 e2⟩
  · exact .inr ⟨g, cap, rfl, h5, (Array.getElem?_eq_some_iff.1 h4).1, h3⟩
theorem Hdr.more {w : World} {B m : Nat} {v : Value} {us : List Value} (h : Hdr w B v us) (hm : us.length = m) (h0 : 0 < m) : ∃ g c, v = .slice (some ⟨g, 0, none⟩) m c := by
  obtain ⟨-, en⟩ | ⟨g, c, ev, -⟩ := h.shape
  · rw [en] at hm; simp at hm; omega
  · exact ⟨g, c, by rw [ev, hm]⟩
/-- A row put between: the heads. -/
theorem RowsH.ins {w : World} {B L : Nat} {us : List Value} {xss : List (List Int)} (h : RowsH w B L us xss) {u : Value} {ys : List Int} (hu : Ints w L u ys) (hBL : B ≤ L) (hL : L ≤ w.heap.size) {k : Nat} (hk : k ≤ xss.length) :
    RowsH w B w.heap.size (us.take k ++ u :: us.drop k) (insAt xss ys k) := by
  obtain ⟨e, hr, hd⟩ := h
  have key : ∀ (β : Type) (l : List β) (x d : β), k ≤ l.length → ∀ j, (l.take k ++ x :: l.drop k).getD j d = if j < k then l.getD j d else if j = k then x else l.getD (j - 1) d := fun β l x d hk j => by
    have lt : (l.take k).length = k := by simp; omega
    by_cases a : j < k
    · rw [if_pos a, List.getD_eq_getElem?_getD, List.getElem?_append_left (by omega), List.getD_eq_getElem?_getD, List.getElem?_take, if_pos a]
    · rw [if_neg a]
      by_cases b : j = k
      · rw [if_pos b, List.getD_eq_getElem?_getD, List.getElem?_append_right (by omega), lt, b, Nat.sub_self]; rfl
      · rw [if_neg b, List.getD_eq_getElem?_getD, List.getElem?_append_right (by omega), lt, show j - k = (j - 1 - k) + 1 by omega, List.getElem?_cons_succ, List.getElem?_drop, show k + (j - 1 - k) = j - 1 by omega, List.getD_eq_getElem?_getD]
  have ku := key _ us u undef (by omega)
  have kx := key _ xss ys [] hk
  have hul : IntsL w B w.heap.size u ys := hu.lim.mono hBL (Nat.le_refl _) (Nat.le_refl _)
  have hn : ∀ i, i < xss.length → (us.getD i undef).ownBlock = none ∨ (us.getD i undef).ownBlock ≠ u.ownBlock := fun i hi => by
    cases k1 : (us.getD i undef).ownBlock with
    | none => exact .inl rfl
    | some q =>
      right
      intro k2
      have a1 := (hr i hi).2.1 q k1
      have a2 := (World.ownsRow.lt hu q k2.symm).1
      omega
  unfold insAt
  have len : (xss.take k ++ ys :: xss.drop k).length = xss.length + 1 := by simp; omega
  refine ⟨by simp [e], fun j hj => ?_, fun i j hij hj => ?_⟩
  · rw [len] at hj
    rw [ku, kx]
    by_cases a : j < k
    · rw [if_pos a, if_pos a]; exact (hr j (by omega)).mono (Nat.le_refl _) hL (Nat.le_refl _)
    · rw [if_neg a, if_neg a]
      by_cases b : j = k
      · rw [if_pos b, if_pos b]; exact hul
      · rw [if_neg b, if_neg b]; exact (hr (j - 1) (by omega)).mono (Nat.le_refl _) hL (Nat.le_refl _)
  · rw [len] at hj
    by_cases a : i < k
    · rw [ku i, if_pos a]
      by_cases b : j < k
      · rw [ku j, if_pos b]; exact hd i j hij (by omega)
      · rw [ku j, if_neg b]
        by_cases c : j = k
        · rw [if_pos c]; exact hn i (by omega)
        · rw [if_neg c]; exact hd i (j - 1) (by omega) (by omega)
    · rw [ku j, if_neg (show ¬ j < k by omega), if_neg (show ¬ j = k by omega), ku i, if_neg a]
      by_cases b : i = k
      · rw [if_pos b]
        rcases hn (j - 1) (by omega) with q | q
        · cases k1 : u.ownBlock with
          | none => exact .inl rfl
          | some z => right; rw [q]; exact fun h => by cases h
        · right; exact fun h => q h.symm
      · rw [if_neg b]; exact hd (i - 1) (j - 1) (by omega) (by omega)

/-! Lists in order, by the model (l10Sort, l10Make). -/
section
open Go.RowKit Go.Shelf
set_option linter.unusedVariables false
set_option linter.unusedSimpArgs false

set_option maxRecDepth 100000 in
set_option maxHeartbeats 4000000 in
theorem sSort (xss : List (List Int)) (hx : xss.length ≤ 1000) (hl : ∀ i, i < xss.length → (xss.getD i []).length ≤ 1048576) (w : World) (v : Value) (hv : RowsAt w v xss) :
    Calls Tryd.prog 66 #[v] w fun e w' => ∃ r, e = .returned r ∧ RowsL w' w.heap.size w'.heap.size r (sortL xss) ∧ Below w.heap.size w w' := by
  obtain ⟨a, cap, rfl, K⟩ := hv.rowsIn
  obtain ⟨n, hn⟩ : ∃ n, xss.length = n := ⟨_, rfl⟩
  obtain ⟨B, hB⟩ : ∃ B, w.heap.size = B := ⟨_, rfl⟩
  have NX : Hid (∀ i, i < n → sortL (xss.take (i + 1)) = insL (sortL (xss.take i)) (xss.getD i [])) := fun i hi => sortL_take xss i (by omega)
  have LN : Hid (∀ i, i ≤ n → (sortL (xss.take i)).length = i) := fun i hi => by rw [sortL_len, List.length_take]; omega
  have ALL : Hid (sortL (xss.take n) = sortL xss) := by unfold Hid; rw [← hn, List.take_length]
  rw [hn] at K hx hl ⊢
  rw [hB] at K
  have HK := Lib.hid K
  have HB := Lib.hid hB
  have R0 : Hid (RowsL (w.alloc (.cells #[] 60)) B (B + 1) (.slice (some ⟨B, 0, none⟩) 0 0) (sortL (xss.take 0))) := by
    unfold Hid; rw [← hB]; exact RowsL.made w w.heap.size 0 #[] (Nat.le_refl _) (by unfold maxLen; omega) rfl
  have z0 : (w.alloc (.cells #[] 60)).heap.size = B + 1 := by rw [World.size_alloc, hB]
  have B0 : Hid (Below B w (w.alloc (.cells #[] 60))) := (Below.refl _ _).alloc (Nat.le_of_eq hB.symm) _
  obtain ⟨w0, hw0⟩ : ∃ w0, w.alloc (.cells #[] 60) = w0 := ⟨_, rfl⟩
  rw [hw0] at R0 B0 z0
  rw [← z0] at R0
  have HL := Lib.hid hl
  clear K hv hn hl
  go_enter Tryd.func66, Tryd.ntmps66
  go_wp2
  try rw [hw0]
  clear hw0 z0
  go_loopw [3, 4] (fun o i wr => ∃ (k g c : Nat), k ≤ n ∧ i = .int .i64 k ∧ o = .slice (some ⟨g, 0, none⟩) k c ∧ Hid (RowsL wr B wr.heap.size (.slice (some ⟨g, 0, none⟩) k c) (sortL (xss.take k))) ∧ Hid (Below B w wr)) (fun _ i _ => n - (intOf i).toNat)
  case atStart => exact ⟨0, B, 0, by omega, rfl, rfl, R0, B0⟩
  case round =>
    obtain ⟨i, g, c, hi, rfl, rfl, hR, hBl⟩ := hrel
    by_cases ci : i < n
    · have k1 : decide (i < n) = true := by simpa using ci
      have k1' : decide ((i : Int) < (n : Int)) = true := decide_eq_true (by omega)
      have wi := IntWalk.i64_in ((i : Int) + 1) (by omega)
      have i0 : (0 : Int) ≤ (i : Int) := by omega
      have i1 : (i : Int) < (n : Int) := by omega
      obtain ⟨g1, o1, u, ha, hu, hiu⟩ := HK.out wr hBl.out i ci
      subst ha
      have HLi := HL.out i ci
      have NXi := Lib.hid (NX.out i ci)
      have LNi := Lib.hid (LN.out i hi)
      obtain ⟨x, hxx⟩ : ∃ x, xss.getD i [] = x := ⟨_, rfl⟩
      rw [hxx] at hiu HLi NXi
      obtain ⟨ua, uc, rfl, -, -⟩ := hiu.shape
      obtain ⟨l, hl⟩ : ∃ l, x.length = l := ⟨_, rfl⟩
      rw [hl] at hiu hu HLi
      have X1 := Lib.hid hiu
      have HX := Lib.hid (show x.length = l from hl)
      obtain ⟨us, hH, hRH, -, -⟩ := hR.out.heads
      have hcap : i ≤ c := by
        obtain ⟨-, ⟨e, -⟩ | ⟨g', cap', cur, e, -, -, q, -⟩⟩ := hH.1
        · cases e
        · simp only [Value.slice.injEq] at e; omega
      obtain ⟨O, hO⟩ : ∃ O, sortL (xss.take i) = O := ⟨_, rfl⟩
      rw [hO] at hRH LNi NXi
      have hus : us.length = i := hRH.1.trans LNi.out
      have HH := Lib.hid hH
      have HRH := Lib.hid hRH
      have CU : Hid (∀ j, j < i → wr.cell? ⟨g, j, none⟩ = some (us.getD j undef) ∧ IntsAt wr (us.getD j undef) (O.getD j [])) := fun j hj => by
        have hH' := hH
        rw [← hus] at hH'
        refine ⟨hH'.cell j _ (by rw [List.getElem?_eq_getElem (by omega), List.getD_eq_getElem?_getD, List.getElem?_eq_getElem (by omega), Option.getD_some]), (hRH.2.1 j (by rw [LNi.out]; exact hj)).c.1⟩
      have HUS := Lib.hid hus
      have HI := Lib.hid hxx
      clear hiu hl hxx hR hH hRH hO hus
      go_wp2
      go_loopw [5] (fun kv w2 => ∃ k d : Nat, k ≤ i ∧ kv = .int .i64 k ∧ w2 = wr.drewN d ∧ Hid (place O x i = place O x k)) (fun kv _ => (intOf kv).toNat)
      case atStart => exact ⟨i, 0, Nat.le_refl _, rfl, rfl, rfl⟩
      case round =>
        obtain ⟨k, d, hk, rfl, rfl, hP⟩ := hrel
        have AFTER : True := trivial
        by_cases z : k = 0
        · have q1 : decide ((k : Int) > 0) = false := decide_eq_false (by omega)
          have q2 : decide ((0 : Int) < (k : Int)) = false := decide_eq_false (by omega)
          have q3 : decide (0 < k) = false := decide_eq_false (by omega)
          have HP : Hid (place O x i = k) := by unfold Hid; rw [hP.out, z]; rfl
          clear hP
          go_wp2
          go_quiet (fail)
          obtain ⟨wq, hwq⟩ : ∃ W, (wr.drewN d).drewN nq = W := ⟨_, rfl⟩
          rw [hwq]
          have bq : Below wr.heap.size wr wq := by rw [← hwq]; exact ⟨rfl, rfl, rfl, Nat.le_refl _, fun _ _ => rfl⟩
          have hh : wq.heap = wr.heap := by rw [← hwq]; rfl
          clear hwq q1 q2 q3 z
          have sB : B ≤ wr.heap.size := by have := hBl.out.size; have := HB.out; omega
          have Bq : Hid (Below B w wq) := hBl.out.trans (bq.mono sB)
          have HHq := Lib.hid (HH.out.below bq (Nat.le_refl _))
          have HRq := Lib.hid (HRH.out.below bq (Nat.le_refl _))
          have Xq := Lib.hid (X1.out.ofHeap hh)
          have cu : wq.cell? ⟨g1, o1 + i, none⟩ = some (.slice ua l uc) := by rw [bq.cell (p := ⟨g1, o1 + i, none⟩) (World.block_lt_of_cell? wr _ hu)]; exact hu
          have hlt : g < wr.heap.size := by
            rcases HH.out.shape with ⟨e, -⟩ | ⟨g', c', e, -, q, -⟩
            · cases e
            · simp only [Value.slice.injEq, Option.some.injEq, Addr.mk.injEq] at e; omega
          rw [← hh] at HRq
          clear HRH HH CU X1 hu bq hBl
          obtain ⟨I, hI⟩ : ∃ I, wq.heap.size = I := ⟨_, rfl⟩
          rw [← hh, hI] at hlt sB
          rw [hI] at HRq
          obtain ⟨w5, hw5⟩ : ∃ W, wq.alloc (.cells #[] 60) = W := ⟨_, rfl⟩
          have b5 : Below I wq w5 := by rw [← hw5]; exact (Below.refl _ _).alloc (Nat.le_of_eq hI.symm) _
          have z5 : w5.heap.size = I + 1 := by rw [← hw5, World.size_alloc, hI]
          have H5 : Hid (Hdr w5 I (.slice (some ⟨I, 0, none⟩) 0 0) []) := ⟨by rw [← hw5, ← hI]; exact World.ownsRow_made wq #[] 0 (Nat.le_refl _) (by unfold maxLen; omega) rfl, fun u hu => by cases hu⟩
          have HUq : Hid (∀ W, Below I wq W → ∀ j u, us[j]? = some u → W.cell? ⟨g, j, none⟩ = some u) := fun W hW j u hj => by
            have q := HHq.out
            rw [← HUS.out] at q
            rw [hW.cell (p := ⟨g, j, none⟩) hlt]
            exact q.cell j u hj
          have ONE : Hid (∀ u ∈ us, u.oneCell' = true) := HHq.out.2
          have C8 : Hid (∀ j u, (us.take k)[j]? = some u → w5.cell? ⟨g, 0 + j, none⟩ = some u) := fun j u hj => by
            rw [Nat.zero_add]
            rw [List.getElem?_take] at hj
            split at hj
            · exact HUq.out w5 b5 j u hj
            · cases hj
          have T8 : Hid ((us.take k).length = k) := by unfold Hid; rw [List.length_take, HUS.out]; omega
          have b5 := Lib.hid b5
          have s5 : Hid (w5.heap.size = I + 1) := z5
          have kn : k < 1000 := by omega
          have g1lt : g1 < I := by rw [← hI]; exact World.block_lt_of_cell? wq _ cu
          have HCU : Hid (∀ W, Below I wq W → W.cell? ⟨g1, o1 + i, none⟩ = some (.slice ua l uc)) := fun W hW => by rw [hW.cell (p := ⟨g1, o1 + i, none⟩) g1lt]; exact cu
          have HOW : Hid (∀ W, Below I wq W → Calls Tryd.prog 59 #[.slice ua l uc] W fun e w' => ∃ v', e = .returned v' ∧ Ints w' W.heap.size v' x ∧ Below W.heap.size W w') := fun W hW => sown_at W _ x (Xq.out.below hW (Nat.le_of_eq hI)) (by rw [HX.out]; exact HLi)
          clear hh z5 cu
          go_wp2_with (at_builtin; refine wpList_appendH w5 (by rfl) _ _ (by rfl) I (.slice (some ⟨I, 0, none⟩) 0 0) [] (by rfl) H5.out g 0 c k (us.take k) (by rfl) T8.out C8.out (fun u hu => ONE.out u (List.mem_of_mem_take hu)) (by simp; omega) (by have := s5.out; omega) ?_; intro v6 w6 h6 b6 g6; clear g6; have B6 : Hid (Below I wq w6) := b5.out.trans b6; have H6 : Hid (Hdr w6 I v6 (us.take k)) := h6; have cu6 := HCU.out w6 B6.out; have S6 : Hid (I + 1 ≤ w6.heap.size) := Nat.le_trans (Nat.le_of_eq s5.out.symm) b6.size; clear h6 b6)
          refine (HOW.out w6 B6.out).mono ?_
          rintro e w7 ⟨v7, rfl, h7, b7⟩
          obtain ⟨a7, c7, rfl⟩ := h7.len_eq
          rw [HX.out]
          rw [HX.out] at h7
          obtain ⟨J, hJ⟩ : ∃ J, w6.heap.size = J := ⟨_, rfl⟩
          rw [hJ] at h7 b7
          have S6 : Hid (I + 1 ≤ J) := by rw [← hJ]; exact S6.out
          have B7 : Hid (Below I wq w7) := B6.out.trans (b7.mono (by have := S6.out; omega))
          have H7 := Lib.hid (H6.out.below b7 (Nat.le_of_eq hJ))
          obtain ⟨M, hM⟩ : ∃ M, w7.heap.size = M := ⟨_, rfl⟩
          have JM : Hid (J ≤ M) := by rw [← hM, ← hJ]; exact b7.size
          obtain ⟨w8, hw8⟩ : ∃ W, w7.alloc (.cells #[.slice a7 l c7] 60) = W := ⟨_, rfl⟩
          have b8 : Below M w7 w8 := by rw [← hw8]; exact (Below.refl _ _).alloc (Nat.le_of_eq hM.symm) _
          have s8 : Hid (w8.heap.size = M + 1) := by unfold Hid; rw [← hw8, World.size_alloc, hM]
          have C9 : Hid (∀ j u, [Value.slice a7 l c7][j]? = some u → w8.cell? ⟨M, 0 + j, none⟩ = some u) := fun j u hj => by
            match j, hj with
            | 0, hj => simp at hj; subst hj; rw [← hw8, ← hM]; simp
          have H8 := Lib.hid (H7.out.below b8 (Nat.le_of_eq hM))
          have N8 : Hid (Ints w8 J (.slice a7 l c7) x) := h7.below b8 (Nat.le_of_eq hM)
          have B8 : Hid (Below I wq w8) := B7.out.trans (b8.mono (by have := S6.out; have := JM.out; omega))
          clear h7 b7 b8 hJ cu6
          have C10 : Hid (∀ W, Below I wq W → ∀ j u, (us.drop k)[j]? = some u → W.cell? ⟨g, k + j, none⟩ = some u) := fun W hW j u hj => by
            rw [List.getElem?_drop] at hj
            exact HUq.out W hW (k + j) u hj
          have T10 : Hid ((us.drop k).length = i - k) := by unfold Hid; rw [List.length_drop, HUS.out]
          have T9 : Hid ((us.take k ++ [Value.slice a7 l c7]).length = k + 1) := by unfold Hid; rw [List.length_append, T8.out]; rfl
          have HN9 : Hid (sortL (xss.take (i + 1)) = insAt O x k) := by unfold Hid; rw [NXi.out, insL, LNi.out, HP.out]
          have hkO : Hid (k ≤ O.length) := by unfold Hid; rw [LNi.out]; omega
          have FIN : Hid (∀ (v10 : Value) (w10 : World), Hdr w10 I v10 (us.take k ++ [Value.slice a7 l c7] ++ us.drop k) → Below I w8 w10 → Ints w10 J (.slice a7 l c7) x → ∃ g' c', v10 = .slice (some ⟨g', 0, none⟩) (i + 1) c' ∧ Hid (RowsL w10 B w10.heap.size (.slice (some ⟨g', 0, none⟩) (i + 1) c') (sortL (xss.take (i + 1)))) ∧ Hid (Below B w w10)) := fun v10 w10 h10 b10 n10 => by
            have e : us.take k ++ [Value.slice a7 l c7] ++ us.drop k = us.take k ++ Value.slice a7 l c7 :: us.drop k := by simp
            rw [e] at h10
            have ln : (us.take k ++ Value.slice a7 l c7 :: us.drop k).length = i + 1 := by simp [HUS.out]; omega
            have b10' : Below I wq w10 := B8.out.trans b10
            have sI := S6.out
            have sM := JM.out
            have r8 : RowsH w10 B I us O := HRq.out.below b10' (Nat.le_of_eq hI)
            have r10 := RowsH.ins (L := J) ⟨r8.1, fun j hj => (r8.2.1 j hj).mono (Nat.le_refl _) (by omega) (by have := b10.size; have := s8.out; omega), r8.2.2⟩ n10 (by omega) (by have := b10.size; have := s8.out; omega) (k := k) hkO.out
            have R := RowsL.ofHeads (h10.mono (show B ≤ I from sB)) r10
            rw [← HN9.out] at R
            obtain ⟨ev, en⟩ | ⟨g', c', ev, -⟩ := h10.shape
            · rw [en] at ln; simp at ln
            · rw [ln] at ev
              exact ⟨g', c', ev, by rw [← ev]; exact R, Bq.out.trans (b10'.mono (by omega))⟩
          clear HP HI HX NXi LNi
          by_cases kc : c = k
          · obtain rfl : i = k := by omega
            obtain rfl : i = c := by omega
            go_wp2_with (first | (at_builtin; refine wpList_appendH w9 (by rfl) _ _ (by rfl) I (.slice (some ⟨q9, 0, none⟩) (i + 1) d9) (us.take i ++ [Value.slice a7 l c7]) (by rfl) H9.out g 0 0 0 (us.drop i) (by rfl) (by rw [T10.out]; omega) (fun j u hj => by rw [List.drop_eq_nil_of_le (by rw [HUS.out]; omega)] at hj; cases hj) (fun u hu => ONE.out u (List.mem_of_mem_drop hu)) (by rw [T9.out]; omega) (by have := B9.out.size; have := s8.out; have := JM.out; have := S6.out; omega) ?_; intro v10 w10 h10 b10 g10; obtain ⟨g11, c11, rfl, R11, B11⟩ := FIN.out v10 w10 h10 (B9.out.trans b10) (N9.out.past H9.out g10); clear h10 b10 g10) | (at_builtin; refine wpList_appendH w8 (by rfl) _ _ (by rfl) I v6 (us.take i) (by rfl) H8.out M 0 1 1 [.slice a7 l c7] (by rfl) rfl C9.out (fun u hu => by simp at hu; subst hu; rfl) (by rw [T8.out]; omega) (by have := s8.out; have := JM.out; have := S6.out; omega) ?_; intro v9 w9 h9 b9 g9; have N9 := Lib.hid (N8.out.past H8.out g9); have B9 : Hid (Below I w8 w9) := b9; have H9 : Hid (Hdr w9 I v9 (us.take i ++ [Value.slice a7 l c7])) := h9; obtain ⟨q9, d9, rfl⟩ := h9.more T9.out (by omega); clear h9 b9 g9))
            go_roundw
            case rel => exact ⟨i + 1, g11, c11, by omega, by go_num, rfl, R11, B11⟩
            case measure => simp [intOf]; omega
          · have kc2 : ¬ (k = c) := fun h => kc h.symm
            go_wp2_with (first | (at_builtin; refine wpList_appendH w9 (by rfl) _ _ (by rfl) I (.slice (some ⟨q9, 0, none⟩) (k + 1) d9) (us.take k ++ [Value.slice a7 l c7]) (by rfl) H9.out g k (c - k) (i - k) (us.drop k) (by rfl) T10.out (C10.out w9 (B8.out.trans B9.out)) (fun u hu => ONE.out u (List.mem_of_mem_drop hu)) (by rw [T9.out]; omega) (by have := B9.out.size; have := s8.out; have := JM.out; have := S6.out; omega) ?_; intro v10 w10 h10 b10 g10; obtain ⟨g11, c11, rfl, R11, B11⟩ := FIN.out v10 w10 h10 (B9.out.trans b10) (N9.out.past H9.out g10); clear h10 b10 g10) | (at_builtin; refine wpList_appendH w8 (by rfl) _ _ (by rfl) I v6 (us.take k) (by rfl) H8.out M 0 1 1 [.slice a7 l c7] (by rfl) rfl C9.out (fun u hu => by simp at hu; subst hu; rfl) (by rw [T8.out]; omega) (by have := s8.out; have := JM.out; have := S6.out; omega) ?_; intro v9 w9 h9 b9 g9; have N9 := Lib.hid (N8.out.past H8.out g9); have B9 : Hid (Below I w8 w9) := b9; have H9 : Hid (Hdr w9 I v9 (us.take k ++ [Value.slice a7 l c7])) := h9; obtain ⟨q9, d9, rfl⟩ := h9.more T9.out (by omega); clear h9 b9 g9))
            go_roundw
            case rel => exact ⟨i + 1, g11, c11, by omega, by go_num, rfl, R11, B11⟩
            case measure => simp [intOf]; omega
        · have q1 : decide ((k : Int) > 0) = true := decide_eq_true (by omega)
          have q2 : decide ((0 : Int) < (k : Int)) = true := decide_eq_true (by omega)
          have q3 : decide (0 < k) = true := decide_eq_true (by omega)
          have e3 : IntKind.i64.wrap ((k : Int) - 1) = (k : Int) - 1 := IntWalk.i64_in _ (by omega)
          have e4 : ((k : Int) - 1).toNat = k - 1 := by omega
          have e6 : (k : Int) - 1 < (i : Int) := by omega
          have e7 : (0 : Int) ≤ (k : Int) - 1 := by omega
          obtain ⟨cq, iq⟩ := CU.out (k - 1) (by omega)
          have PL : Hid (place O x k = if 0 < cmpL (O.getD (k - 1) []) x then place O x (k - 1) else k) := by
            unfold Hid
            obtain ⟨k', rfl⟩ : ∃ k', k = k' + 1 := ⟨k - 1, by omega⟩
            rw [place, Nat.add_sub_cancel]
          obtain ⟨r2, hr2⟩ : ∃ r, O.getD (k - 1) [] = r := ⟨_, rfl⟩
          rw [hr2] at iq PL
          obtain ⟨vb, vd, ev, -, -⟩ := iq.shape
          rw [ev] at cq iq
          obtain ⟨l2, hl2⟩ : ∃ l, r2.length = l := ⟨_, rfl⟩
          rw [hl2] at cq iq
          clear ev
          have Y1 := Lib.hid (fun (W : World) (e : W.heap = wr.heap) => iq.ofHeap e)
          have X2 := Lib.hid (fun (W : World) (e : W.heap = wr.heap) => X1.out.ofHeap e)
          have HCJ := Lib.hid (fun W h h' => scmp W (.slice vb l2 vd) (.slice ua l uc) r2 x h h')
          obtain ⟨y, hy⟩ : ∃ y, cmpL r2 x = y := ⟨_, rfl⟩
          simp only [hy] at HCJ PL
          by_cases p : 0 < y
          · have y1 : decide (y > 0) = true := decide_eq_true p
            have y2 : decide (0 < y) = true := decide_eq_true p
            have P2 : Hid (place O x i = place O x (k - 1)) := by unfold Hid; rw [hP.out, PL.out, if_pos p]
            clear iq hr2 hl2 hy PL hP
            go_wp2
            go_quiet ((go_at_call 57; first | exact Calls.quiet_of (HCJ.out _ (Y1.out _ rfl) (X2.out _ rfl)) | exact quiet_drew2 (HCJ.out _ (Y1.out _ rfl) (X2.out _ rfl))))
            go_wp2
            go_roundw
            case rel => exact ⟨k - 1, d + nq, by omega, by congr 1; omega, by first | rfl | exact World.drewN_drewN _ _ _, P2⟩
            case measure => simp [intOf]; omega
          · have y1 : decide (y > 0) = false := decide_eq_false p
            have y2 : decide (0 < y) = false := decide_eq_false p
            have HP : Hid (place O x i = k) := by unfold Hid; rw [hP.out, PL.out, if_neg p]
            clear iq hr2 hl2 hy PL hP
            go_wp2
            go_quiet ((go_at_call 57; first | exact Calls.quiet_of (HCJ.out _ (Y1.out _ rfl) (X2.out _ rfl)) | exact quiet_drew2 (HCJ.out _ (Y1.out _ rfl) (X2.out _ rfl))))
            clear cq HCJ Y1 X2 p
            obtain ⟨wq, hwq⟩ : ∃ W, (wr.drewN d).drewN nq = W := ⟨_, rfl⟩
            rw [hwq]
            have bq : Below wr.heap.size wr wq := by rw [← hwq]; exact ⟨rfl, rfl, rfl, Nat.le_refl _, fun _ _ => rfl⟩
            have hh : wq.heap = wr.heap := by rw [← hwq]; rfl
            clear hwq q1 q2 q3 z
            have sB : B ≤ wr.heap.size := by have := hBl.out.size; have := HB.out; omega
            have Bq : Hid (Below B w wq) := hBl.out.trans (bq.mono sB)
            have HHq := Lib.hid (HH.out.below bq (Nat.le_refl _))
            have HRq := Lib.hid (HRH.out.below bq (Nat.le_refl _))
            have Xq := Lib.hid (X1.out.ofHeap hh)
            have cu : wq.cell? ⟨g1, o1 + i, none⟩ = some (.slice ua l uc) := by rw [bq.cell (p := ⟨g1, o1 + i, none⟩) (World.block_lt_of_cell? wr _ hu)]; exact hu
            have hlt : g < wr.heap.size := by
              rcases HH.out.shape with ⟨e, -⟩ | ⟨g', c', e, -, q, -⟩
              · cases e
              · simp only [Value.slice.injEq, Option.some.injEq, Addr.mk.injEq] at e; omega
            rw [← hh] at HRq
            clear HRH HH CU X1 hu bq hBl
            obtain ⟨I, hI⟩ : ∃ I, wq.heap.size = I := ⟨_, rfl⟩
            rw [← hh, hI] at hlt sB
            rw [hI] at HRq
            obtain ⟨w5, hw5⟩ : ∃ W, wq.alloc (.cells #[] 60) = W := ⟨_, rfl⟩
            have b5 : Below I wq w5 := by rw [← hw5]; exact (Below.refl _ _).alloc (Nat.le_of_eq hI.symm) _
            have z5 : w5.heap.size = I + 1 := by rw [← hw5, World.size_alloc, hI]
            have H5 : Hid (Hdr w5 I (.slice (some ⟨I, 0, none⟩) 0 0) []) := ⟨by rw [← hw5, ← hI]; exact World.ownsRow_made wq #[] 0 (Nat.le_refl _) (by unfold maxLen; omega) rfl, fun u hu => by cases hu⟩
            have HUq : Hid (∀ W, Below I wq W → ∀ j u, us[j]? = some u → W.cell? ⟨g, j, none⟩ = some u) := fun W hW j u hj => by
              have q := HHq.out
              rw [← HUS.out] at q
              rw [hW.cell (p := ⟨g, j, none⟩) hlt]
              exact q.cell j u hj
            have ONE : Hid (∀ u ∈ us, u.oneCell' = true) := HHq.out.2
            have C8 : Hid (∀ j u, (us.take k)[j]? = some u → w5.cell? ⟨g, 0 + j, none⟩ = some u) := fun j u hj => by
              rw [Nat.zero_add]
              rw [List.getElem?_take] at hj
              split at hj
              · exact HUq.out w5 b5 j u hj
              · cases hj
            have T8 : Hid ((us.take k).length = k) := by unfold Hid; rw [List.length_take, HUS.out]; omega
            have b5 := Lib.hid b5
            have s5 : Hid (w5.heap.size = I + 1) := z5
            have kn : k < 1000 := by omega
            have g1lt : g1 < I := by rw [← hI]; exact World.block_lt_of_cell? wq _ cu
            have HCU : Hid (∀ W, Below I wq W → W.cell? ⟨g1, o1 + i, none⟩ = some (.slice ua l uc)) := fun W hW => by rw [hW.cell (p := ⟨g1, o1 + i, none⟩) g1lt]; exact cu
            have HOW : Hid (∀ W, Below I wq W → Calls Tryd.prog 59 #[.slice ua l uc] W fun e w' => ∃ v', e = .returned v' ∧ Ints w' W.heap.size v' x ∧ Below W.heap.size W w') := fun W hW => sown_at W _ x (Xq.out.below hW (Nat.le_of_eq hI)) (by rw [HX.out]; exact HLi)
            clear hh z5 cu
            go_wp2_with (at_builtin; refine wpList_appendH w5 (by rfl) _ _ (by rfl) I (.slice (some ⟨I, 0, none⟩) 0 0) [] (by rfl) H5.out g 0 c k (us.take k) (by rfl) T8.out C8.out (fun u hu => ONE.out u (List.mem_of_mem_take hu)) (by simp; omega) (by have := s5.out; omega) ?_; intro v6 w6 h6 b6 g6; clear g6; have B6 : Hid (Below I wq w6) := b5.out.trans b6; have H6 : Hid (Hdr w6 I v6 (us.take k)) := h6; have cu6 := HCU.out w6 B6.out; have S6 : Hid (I + 1 ≤ w6.heap.size) := Nat.le_trans (Nat.le_of_eq s5.out.symm) b6.size; clear h6 b6)
            refine (HOW.out w6 B6.out).mono ?_
            rintro e w7 ⟨v7, rfl, h7, b7⟩
            obtain ⟨a7, c7, rfl⟩ := h7.len_eq
            rw [HX.out]
            rw [HX.out] at h7
            obtain ⟨J, hJ⟩ : ∃ J, w6.heap.size = J := ⟨_, rfl⟩
            rw [hJ] at h7 b7
            have S6 : Hid (I + 1 ≤ J) := by rw [← hJ]; exact S6.out
            have B7 : Hid (Below I wq w7) := B6.out.trans (b7.mono (by have := S6.out; omega))
            have H7 := Lib.hid (H6.out.below b7 (Nat.le_of_eq hJ))
            obtain ⟨M, hM⟩ : ∃ M, w7.heap.size = M := ⟨_, rfl⟩
            have JM : Hid (J ≤ M) := by rw [← hM, ← hJ]; exact b7.size
            obtain ⟨w8, hw8⟩ : ∃ W, w7.alloc (.cells #[.slice a7 l c7] 60) = W := ⟨_, rfl⟩
            have b8 : Below M w7 w8 := by rw [← hw8]; exact (Below.refl _ _).alloc (Nat.le_of_eq hM.symm) _
            have s8 : Hid (w8.heap.size = M + 1) := by unfold Hid; rw [← hw8, World.size_alloc, hM]
            have C9 : Hid (∀ j u, [Value.slice a7 l c7][j]? = some u → w8.cell? ⟨M, 0 + j, none⟩ = some u) := fun j u hj => by
              match j, hj with
              | 0, hj => simp at hj; subst hj; rw [← hw8, ← hM]; simp
            have H8 := Lib.hid (H7.out.below b8 (Nat.le_of_eq hM))
            have N8 : Hid (Ints w8 J (.slice a7 l c7) x) := h7.below b8 (Nat.le_of_eq hM)
            have B8 : Hid (Below I wq w8) := B7.out.trans (b8.mono (by have := S6.out; have := JM.out; omega))
            clear h7 b7 b8 hJ cu6
            have C10 : Hid (∀ W, Below I wq W → ∀ j u, (us.drop k)[j]? = some u → W.cell? ⟨g, k + j, none⟩ = some u) := fun W hW j u hj => by
              rw [List.getElem?_drop] at hj
              exact HUq.out W hW (k + j) u hj
            have T10 : Hid ((us.drop k).length = i - k) := by unfold Hid; rw [List.length_drop, HUS.out]
            have T9 : Hid ((us.take k ++ [Value.slice a7 l c7]).length = k + 1) := by unfold Hid; rw [List.length_append, T8.out]; rfl
            have HN9 : Hid (sortL (xss.take (i + 1)) = insAt O x k) := by unfold Hid; rw [NXi.out, insL, LNi.out, HP.out]
            have hkO : Hid (k ≤ O.length) := by unfold Hid; rw [LNi.out]; omega
            have FIN : Hid (∀ (v10 : Value) (w10 : World), Hdr w10 I v10 (us.take k ++ [Value.slice a7 l c7] ++ us.drop k) → Below I w8 w10 → Ints w10 J (.slice a7 l c7) x → ∃ g' c', v10 = .slice (some ⟨g', 0, none⟩) (i + 1) c' ∧ Hid (RowsL w10 B w10.heap.size (.slice (some ⟨g', 0, none⟩) (i + 1) c') (sortL (xss.take (i + 1)))) ∧ Hid (Below B w w10)) := fun v10 w10 h10 b10 n10 => by
              have e : us.take k ++ [Value.slice a7 l c7] ++ us.drop k = us.take k ++ Value.slice a7 l c7 :: us.drop k := by simp
              rw [e] at h10
              have ln : (us.take k ++ Value.slice a7 l c7 :: us.drop k).length = i + 1 := by simp [HUS.out]; omega
              have b10' : Below I wq w10 := B8.out.trans b10
              have sI := S6.out
              have sM := JM.out
              have r8 : RowsH w10 B I us O := HRq.out.below b10' (Nat.le_of_eq hI)
              have r10 := RowsH.ins (L := J) ⟨r8.1, fun j hj => (r8.2.1 j hj).mono (Nat.le_refl _) (by omega) (by have := b10.size; have := s8.out; omega), r8.2.2⟩ n10 (by omega) (by have := b10.size; have := s8.out; omega) (k := k) hkO.out
              have R := RowsL.ofHeads (h10.mono (show B ≤ I from sB)) r10
              rw [← HN9.out] at R
              obtain ⟨ev, en⟩ | ⟨g', c', ev, -⟩ := h10.shape
              · rw [en] at ln; simp at ln
              · rw [ln] at ev
                exact ⟨g', c', ev, by rw [← ev]; exact R, Bq.out.trans (b10'.mono (by omega))⟩
            clear HP HI HX NXi LNi
            by_cases kc : c = k
            · obtain rfl : i = k := by omega
              obtain rfl : i = c := by omega
              go_wp2_with (first | (at_builtin; refine wpList_appendH w9 (by rfl) _ _ (by rfl) I (.slice (some ⟨q9, 0, none⟩) (i + 1) d9) (us.take i ++ [Value.slice a7 l c7]) (by rfl) H9.out g 0 0 0 (us.drop i) (by rfl) (by rw [T10.out]; omega) (fun j u hj => by rw [List.drop_eq_nil_of_le (by rw [HUS.out]; omega)] at hj; cases hj) (fun u hu => ONE.out u (List.mem_of_mem_drop hu)) (by rw [T9.out]; omega) (by have := B9.out.size; have := s8.out; have := JM.out; have := S6.out; omega) ?_; intro v10 w10 h10 b10 g10; obtain ⟨g11, c11, rfl, R11, B11⟩ := FIN.out v10 w10 h10 (B9.out.trans b10) (N9.out.past H9.out g10); clear h10 b10 g10) | (at_builtin; refine wpList_appendH w8 (by rfl) _ _ (by rfl) I v6 (us.take i) (by rfl) H8.out M 0 1 1 [.slice a7 l c7] (by rfl) rfl C9.out (fun u hu => by simp at hu; subst hu; rfl) (by rw [T8.out]; omega) (by have := s8.out; have := JM.out; have := S6.out; omega) ?_; intro v9 w9 h9 b9 g9; have N9 := Lib.hid (N8.out.past H8.out g9); have B9 : Hid (Below I w8 w9) := b9; have H9 : Hid (Hdr w9 I v9 (us.take i ++ [Value.slice a7 l c7])) := h9; obtain ⟨q9, d9, rfl⟩ := h9.more T9.out (by omega); clear h9 b9 g9))
              go_roundw
              case rel => exact ⟨i + 1, g11, c11, by omega, by go_num, rfl, R11, B11⟩
              case measure => simp [intOf]; omega
            · have kc2 : ¬ (k = c) := fun h => kc h.symm
              go_wp2_with (first | (at_builtin; refine wpList_appendH w9 (by rfl) _ _ (by rfl) I (.slice (some ⟨q9, 0, none⟩) (k + 1) d9) (us.take k ++ [Value.slice a7 l c7]) (by rfl) H9.out g k (c - k) (i - k) (us.drop k) (by rfl) T10.out (C10.out w9 (B8.out.trans B9.out)) (fun u hu => ONE.out u (List.mem_of_mem_drop hu)) (by rw [T9.out]; omega) (by have := B9.out.size; have := s8.out; have := JM.out; have := S6.out; omega) ?_; intro v10 w10 h10 b10 g10; obtain ⟨g11, c11, rfl, R11, B11⟩ := FIN.out v10 w10 h10 (B9.out.trans b10) (N9.out.past H9.out g10); clear h10 b10 g10) | (at_builtin; refine wpList_appendH w8 (by rfl) _ _ (by rfl) I v6 (us.take k) (by rfl) H8.out M 0 1 1 [.slice a7 l c7] (by rfl) rfl C9.out (fun u hu => by simp at hu; subst hu; rfl) (by rw [T8.out]; omega) (by have := s8.out; have := JM.out; have := S6.out; omega) ?_; intro v9 w9 h9 b9 g9; have N9 := Lib.hid (N8.out.past H8.out g9); have B9 : Hid (Below I w8 w9) := b9; have H9 : Hid (Hdr w9 I v9 (us.take k ++ [Value.slice a7 l c7])) := h9; obtain ⟨q9, d9, rfl⟩ := h9.more T9.out (by omega); clear h9 b9 g9))
              go_roundw
              case rel => exact ⟨i + 1, g11, c11, by omega, by go_num, rfl, R11, B11⟩
              case measure => simp [intOf]; omega
    · have k1 : decide (i < n) = false := by simpa using ci
      have k1' : decide ((i : Int) < (n : Int)) = false := decide_eq_false (by omega)
      obtain rfl : i = n := by omega
      go_wp2
      go_ret
      exact ⟨_, rfl, by rw [HB.out, ← ALL.out]; exact hR.out, by rw [HB.out]; exact hBl.out⟩
end

/-! The design with some blocks, by the model (l10Make); SortDesign. -/
section
open Go.RowKit Go.Shelf
set_option linter.unusedVariables false
set_option linter.unusedSimpArgs false

set_option maxRecDepth 100000 in
set_option maxHeartbeats 4000000 in
theorem sMake (n : Int) (h1 : 1 ≤ n) (h2 : n ≤ 32) (xss : List (List Int)) (hx : xss.length ≤ 1048576) (hl : ∀ i, i < xss.length → (xss.getD i []).length ≤ 1048576) (w : World) (v : Value) (hv : RowsAt w v xss) :
    Calls Tryd.prog 47 #[.int .i64 n, v] w fun e w' => ∃ z, e = .returned (.tuple #[.agg #[.int .i64 (mkN n xss), z], .int .i64 (mkC n xss)]) ∧ RowsL w' w.heap.size w'.heap.size z (mkL n xss) ∧ Below w.heap.size w w' := by
  obtain ⟨B, hB⟩ : ∃ B, w.heap.size = B := ⟨_, rfl⟩
  obtain ⟨w0, hw0⟩ : ∃ w0, w.alloc (.cells #[.int .i64 0, .slice none 0 0] 27) = w0 := ⟨_, rfl⟩
  have b0 : Below B w w0 := by rw [← hw0]; exact (Below.refl _ _).alloc (Nat.le_of_eq hB.symm) _
  have z0 : w0.heap.size = B + 1 := by rw [← hw0, World.size_alloc, hB]
  have R0 : w0.heap[B]? = some (.cells #[.int .i64 0, .slice none 0 0] 27 (0, 0)) := by rw [← hw0, ← hB]; exact heap_alloc_new _ _
  have hv0 := hv.below b0 (Nat.le_of_eq hB)
  obtain ⟨a, cap, rfl, K⟩ := hv0.rowsIn
  obtain ⟨m, hm⟩ : ∃ m, xss.length = m := ⟨_, rfl⟩
  have NO : Hid (∀ i, i < m → blkB n (xss.getD i []) = false → mkN n xss = 0 ∧ mkL n xss = [] ∧ mkC n xss = 1) := fun i hi h => mk_no (blksB_false fun d => not_blkB h (d.2.2 i (by omega)))
  have YES : Hid ((∀ i, i < m → blkB n (xss.getD i []) = true) → (128 < m → mkN n xss = 0 ∧ mkL n xss = [] ∧ mkC n xss = 5) ∧ (¬ 128 < m → mkN n xss = n ∧ mkL n xss = sortL xss ∧ mkC n xss = 0)) := fun h => by
    have e : blksB n xss = true := blksB_true ⟨h1, h2, fun i hi => of_blkB (h i (by omega))⟩
    unfold mkN mkL mkC
    rw [e, hm]
    exact ⟨fun k => by simp [k], fun k => by simp [k]⟩
  obtain ⟨zn, hzn⟩ : ∃ z, mkN n xss = z := ⟨_, rfl⟩
  obtain ⟨zl, hzl⟩ : ∃ z, mkL n xss = z := ⟨_, rfl⟩
  obtain ⟨zc, hzc⟩ : ∃ z, mkC n xss = z := ⟨_, rfl⟩
  rw [hzn, hzl, hzc] at NO YES
  rw [hzn, hzl, hzc]
  have HSO := Lib.hid (fun (h : m ≤ 1000) W u hu => sSort xss (by omega) hl W u hu)
  have HB := Lib.hid hB
  have HR := Lib.hid R0
  have B0 := Lib.hid b0
  rw [hm] at K hx hv0 ⊢
  have HK := Lib.hid K
  have HV0 := Lib.hid hv0
  have HBK := Lib.hid (fun W u xs (h : IntsAt W u xs) => sBlk n h1 h2 xs W u h)
  clear K hv hv0 hl hm b0 R0 hzn hzl hzc
  rw [z0] at HK
  go_enter Tryd.func47, Tryd.ntmps47
  go_wp2
  try rw [hw0]
  clear hw0
  go_loopw [6] (fun i wr => ∃ j : Nat, j ≤ m ∧ i = .int .i64 j ∧ Hid (∀ i, i < j → blkB n (xss.getD i []) = true) ∧ ∃ d, wr = w0.drewN d) (fun i _ => m - (intOf i).toNat)
  case atStart => exact ⟨0, by omega, rfl, fun i h => by omega, 0, rfl⟩
  case round =>
    obtain ⟨j, hj, rfl, hP, d, rfl⟩ := hrel
    have R1 : (w0.drewN d).heap[B]? = some (.cells #[.int .i64 0, .slice none 0 0] 27 (0, 0)) := HR.out
    by_cases c : j < m
    · have k1 : decide (j < m) = true := by simpa using c
      have k1' : decide ((j : Int) < (m : Int)) = true := decide_eq_true (by omega)
      have w3 := IntWalk.i64_in ((j : Int) + 1) (by omega)
      have j0 : (0 : Int) ≤ (j : Int) := by omega
      have j1 : (j : Int) < (m : Int) := by omega
      obtain ⟨g1, o1, u, ha, hu, hi⟩ := HK.out w0 (Below.refl _ _) j c
      subst ha
      have NJ := Lib.hid (NO.out j c)
      obtain ⟨r, hr⟩ : ∃ r, xss.getD j [] = r := ⟨_, rfl⟩
      rw [hr] at hi NJ
      obtain ⟨ua, uc, rfl, -, -⟩ := hi.shape
      obtain ⟨l, hl⟩ : ∃ l, r.length = l := ⟨_, rfl⟩
      rw [hl] at hi hu
      have HBJ := Lib.hid (HBK.out (w0.drewN d) (.slice ua l uc) r (hi.ofHeap rfl))
      have HRR := Lib.hid hr
      clear hi hr hl
      cases hq : blkB n r with
      | false =>
        have V := Lib.hid (NJ.out hq)
        rw [hq] at HBJ
        clear hq
        go_wp2_with fail
        refine HBJ.out.mono ?_
        rintro e w2 ⟨rfl, d2, rfl⟩
        have R2 : ((w0.drewN d).drewN d2).heap[B]? = some (.cells #[.int .i64 0, .slice none 0 0] 27 (0, 0)) := HR.out
        obtain ⟨w4, hw4⟩ : ∃ W, (w0.drewN d).drewN d2 = W := ⟨_, rfl⟩
        have B4 : Hid (Below B w w4) := by rw [← hw4]; exact B0.out.trans ⟨rfl, rfl, rfl, Nat.le_refl _, fun _ _ => rfl⟩
        rw [hw4] at R2 ⊢
        have f0 := frozen_of_row w4 B 0 _ _ R2
        have f1 := frozen_of_row w4 B 1 _ _ R2
        have d0 : w4.cell? ⟨B, 0, none⟩ = some (.int .i64 0) := by rw [cell_of_row w4 B 0 _ _ _ R2]; rfl
        have d1 : w4.cell? ⟨B, 1, none⟩ = some (.slice none 0 0) := by rw [cell_of_row w4 B 1 _ _ _ R2]; rfl
        have R2 := Lib.hid R2
        clear R1 hw4
        go_wp2
        have R9 := set2_row w4 B _ _ (.int .i64 0) (.slice none 0 0) _ R2.out
        have B9 := (B4.out.setCell (p := ⟨B, 0, none⟩) (Nat.le_refl _) (.int .i64 0)).setCell (p := ⟨B, 1, none⟩) (Nat.le_refl _) (.slice none 0 0)
        have hld := run_loadVar_row (P := Tryd.prog) _ _ 27 27 #[.int .i64 0, .slice none 0 0] (0, 0) _ R9 Tryd.underlying27 rfl Tryd.infoDes
        refine bodyPost_ret (v := .tuple #[.agg #[.int .i64 0, .slice none 0 0], .int .i64 1]) ?_ rfl ⟨_, by rw [V.out.1, V.out.2.2], ?_, by rw [HB.out]; exact B9⟩
        · rw [results_cell_tmp rfl]
          simp [asAddr, Result.andThen, hld]
        · rw [V.out.2.1]; exact RowsL.nil _ _ _ (Nat.le_refl _)
      | true =>
        have P2 : Hid (∀ i, i < j + 1 → blkB n (xss.getD i []) = true) := fun i hi => by
          by_cases e : i = j
          · rw [e, HRR.out]; exact hq
          · exact hP.out i (by omega)
        rw [hq] at HBJ
        clear hq
        go_wp2_with fail
        refine HBJ.out.mono ?_
        rintro e w2 ⟨rfl, d2, rfl⟩
        go_wp2
        go_roundw
        case rel => exact ⟨j + 1, by omega, by go_num, P2, _, by first | rfl | exact World.drewN_drewN _ _ _⟩
        case measure => simp [intOf]; omega
    · have k1 : decide (j < m) = false := by simpa using c
      have k1' : decide ((j : Int) < (m : Int)) = false := decide_eq_false (by omega)
      obtain rfl : j = m := by omega
      obtain ⟨YF, YO⟩ := YES.out hP.out
      have YF := Lib.hid YF
      have YO := Lib.hid YO
      obtain ⟨w4, hw4⟩ : ∃ W, w0.drewN d = W := ⟨_, rfl⟩
      have b4 : Below (B + 1) w0 w4 := by rw [← hw4]; exact ⟨rfl, rfl, rfl, Nat.le_refl _, fun _ _ => rfl⟩
      have B4 : Hid (Below B w w4) := B0.out.trans (b4.mono (by omega))
      have hs4 : w4.heap.size = B + 1 := by rw [← hw4]; exact z0
      rw [hw4] at R1 ⊢
      clear hw4
      by_cases k : 128 < j
      · have t1 : decide ((j : Int) > 128) = true := decide_eq_true (by omega)
        have t2 : decide ((128 : Int) < (j : Int)) = true := decide_eq_true (by omega)
        have t3 : decide (128 < j) = true := decide_eq_true k
        have V := Lib.hid (YF.out k)
        have f0 := frozen_of_row w4 B 0 _ _ R1
        have f1 := frozen_of_row w4 B 1 _ _ R1
        have d0 : w4.cell? ⟨B, 0, none⟩ = some (.int .i64 0) := by rw [cell_of_row w4 B 0 _ _ _ R1]; rfl
        have d1 : w4.cell? ⟨B, 1, none⟩ = some (.slice none 0 0) := by rw [cell_of_row w4 B 1 _ _ _ R1]; rfl
        have R2 := Lib.hid R1
        clear R1
        go_wp2
        have R9 := set2_row w4 B _ _ (.int .i64 0) (.slice none 0 0) _ R2.out
        have B9 := (B4.out.setCell (p := ⟨B, 0, none⟩) (Nat.le_refl _) (.int .i64 0)).setCell (p := ⟨B, 1, none⟩) (Nat.le_refl _) (.slice none 0 0)
        have hld := run_loadVar_row (P := Tryd.prog) _ _ 27 27 #[.int .i64 0, .slice none 0 0] (0, 0) _ R9 Tryd.underlying27 rfl Tryd.infoDes
        refine bodyPost_ret (v := .tuple #[.agg #[.int .i64 0, .slice none 0 0], .int .i64 5]) ?_ rfl ⟨_, by rw [V.out.1, V.out.2.2], ?_, by rw [HB.out]; exact B9⟩
        · rw [results_cell_tmp rfl]
          simp [asAddr, Result.andThen, hld]
        · rw [V.out.2.1]; exact RowsL.nil _ _ _ (Nat.le_refl _)
      · have t1 : decide ((j : Int) > 128) = false := decide_eq_false (by omega)
        have t2 : decide ((128 : Int) < (j : Int)) = false := decide_eq_false (by omega)
        have t3 : decide (128 < j) = false := decide_eq_false k
        have V := Lib.hid (YO.out k)
        have HS := Lib.hid (HSO.out (by omega) w4 _ (HV0.out.below b4 (Nat.le_of_eq z0)))
        have R1 := Lib.hid R1
        go_wp2_with fail
        refine HS.out.mono ?_
        rintro e w5 ⟨z, rfl, hL, b5⟩
        have R5 : w5.heap[B]? = some (.cells #[.int .i64 0, .slice none 0 0] 27 (0, 0)) := (b5.block B (by omega)).trans R1.out
        have f0 := frozen_of_row w5 B 0 _ _ R5
        have f1 := frozen_of_row w5 B 1 _ _ R5
        have d0 : w5.cell? ⟨B, 0, none⟩ = some (.int .i64 0) := by rw [cell_of_row w5 B 0 _ _ _ R5]; rfl
        have d1 : w5.cell? ⟨B, 1, none⟩ = some (.slice none 0 0) := by rw [cell_of_row w5 B 1 _ _ _ R5]; rfl
        have R5 := Lib.hid R5
        have B5 : Hid (Below B w w5) := B4.out.trans (b5.mono (by omega))
        obtain ⟨az, lz, cz, rfl⟩ : ∃ a l c, z = .slice a l c := by obtain ⟨a, c, e, -⟩ := hL.at.shape; exact ⟨a, _, c, e⟩
        have L5 := Lib.hid hL
        clear hL b5
        go_wp2
        have R9 := set2_row w5 B _ _ (.int .i64 n) (.slice az lz cz) _ R5.out
        have B9 := (B5.out.setCell (p := ⟨B, 0, none⟩) (Nat.le_refl _) (.int .i64 n)).setCell (p := ⟨B, 1, none⟩) (Nat.le_refl _) (.slice az lz cz)
        have L9 := RowsL.off2 L5.out (show B < w4.heap.size by omega) (.int .i64 n) (.slice az lz cz)
        have hld := run_loadVar_row (P := Tryd.prog) _ _ 27 27 #[.int .i64 n, .slice az lz cz] (0, 0) _ R9 Tryd.underlying27 rfl Tryd.infoDes
        refine bodyPost_ret (v := .tuple #[.agg #[.int .i64 n, .slice az lz cz], .int .i64 0]) ?_ rfl ⟨_, by rw [V.out.1, V.out.2.2], ?_, by rw [HB.out]; exact B9⟩
        · rw [results_cell_tmp rfl]
          simp [asAddr, Result.andThen, hld]
        · rw [V.out.2.1]; exact L9.mono (by omega) (by simp [World.setCell]) (Nat.le_refl _)

section
open Go.RowKit Go.Shelf
set_option linter.unusedVariables false
set_option linter.unusedSimpArgs false

theorem mark_DesignR (w : World) (B L : Nat) (n : Int) (v : Value) (xss : List (List Int)) (k : Int) (h : RowsL w B L v xss) (k0 : 0 ≤ k) (k1 : k + tot xss ≤ 9000000000000000000) :
    Calls Tryd.prog 18 #[.agg #[.int .i64 n, v], .int .i64 k] w fun e w' => e = .returned (.int .i64 (k + tot xss)) ∧ RowsL w' B L v (marksR k xss) ∧ Marked B L (w.alloc (.cells #[.int .i64 n, v] 27)) w' := by
  have hb : Below w.heap.size w (w.alloc (.cells #[.int .i64 n, v] 27)) := (Below.refl _ _).alloc (Nat.le_refl _) _
  have HM := Lib.hid (mark_rows _ B L v xss k (h.below hb (Nat.le_refl _)) k0 k1)
  obtain ⟨a, cap, rfl, -⟩ := h.at.shape
  clear h hb
  go_enter Tryd.func18, Tryd.ntmps18
  go_wp2_with fail
  refine HM.out.mono ?_
  rintro e w1 ⟨rfl, hr, hm⟩
  have M := Lib.hid hm
  have R := Lib.hid hr
  clear hm hr
  go_wp2
  go_ret
  exact ⟨rfl, R.out, M.out⟩
theorem held_Design (w : World) (n : Int) (v : Value) (xss : List (List Int)) (k : Int) (h : RowsAt w v (marksR k xss)) (k0 : 0 ≤ k) (k1 : k + tot xss ≤ 9000000000000000000) :
    Calls Tryd.prog 28 #[.agg #[.int .i64 n, v], .int .i64 k] w fun e w' => e = .returned (.int .i64 (k + tot xss)) ∧ Below w.heap.size w w' := by
  have hb : Below w.heap.size w (w.alloc (.cells #[.int .i64 n, v] 27)) := (Below.refl _ _).alloc (Nat.le_refl _) _
  have HM := Lib.hid (held_rows _ v k xss (h.below hb (Nat.le_refl _)) k0 k1)
  have HB := Lib.hid hb
  obtain ⟨a, cap, rfl, -⟩ := h.shape
  obtain ⟨q, hq⟩ : ∃ q : Int, k + (tot xss : Int) = q := ⟨_, rfl⟩
  rw [hq] at HM ⊢
  have t : decide (q < 0) = false := decide_eq_false (by omega)
  clear h hb hq
  go_enter Tryd.func28, Tryd.ntmps28
  go_wp2_with fail
  refine HM.out.mono ?_
  rintro e w1 ⟨rfl, d, rfl⟩
  go_wp2
  go_ret
  exact ⟨rfl, below_drewN HB.out _⟩

/-- A design of the call's own in block X, behind its rows. -/
theorem Cpy.keep {W W' : World} {X b B L : Nat} {n : Int} {v : Value} {T : TypeId} {xs : List (List Int)} (h : Hid (Cpy X b n v T xs W)) (m : Marked B L W W') (d : X < B ∨ L ≤ b) : Hid (Cpy X b n v T xs W') := by
  have hb := h.out.2.2
  exact ⟨h.out.1.mark m (by omega), h.out.2.1.keep m (by omega), hb⟩
/-- Its rows are marked. -/
theorem Cpy.marked {W W' : World} {X b : Nat} {n : Int} {v : Value} {T : TypeId} {xs ys : List (List Int)} (h : Hid (Cpy X b n v T xs W)) (m : Marked b X W W') (r : RowsL W' b X v ys) : Hid (Cpy X b n v T ys W') :=
  ⟨h.out.1.mark m (.inr (Nat.le_refl _)), r, h.out.2.2⟩
theorem Cpy.at {W : World} {X b : Nat} {n : Int} {v : Value} {T : TypeId} {xs : List (List Int)} (h : Hid (Cpy X b n v T xs W)) : RowsAt W v xs := h.out.2.1.at
theorem Cpy.cells {W : World} {X b : Nat} {n : Int} {v : Value} {T : TypeId} {xs : List (List Int)} (h : Hid (Cpy X b n v T xs W)) : W.cell? ⟨X, 0, none⟩ = some (.int .i64 n) ∧ W.cell? ⟨X, 1, none⟩ = some v := h.out.1.cells
theorem tot_perm {xs ys : List (List Int)} (h : xs.Perm ys) : tot xs = tot ys := by
  induction h with
  | nil => rfl
  | cons x _ ih => rw [tot_cons, tot_cons, ih]
  | swap x y l => rw [tot_cons, tot_cons, tot_cons, tot_cons]; omega
  | trans _ _ i1 i2 => exact i1.trans i2
theorem tot_mkL (n : Int) (xss : List (List Int)) : tot (mkL n xss) ≤ tot xss ∧ (mkL n xss).length ≤ xss.length := by
  unfold mkL
  split
  · split
    · exact ⟨Nat.zero_le _, Nat.zero_le _⟩
    · exact ⟨Nat.le_of_eq (tot_perm (sortL_perm xss)), Nat.le_of_eq (sortL_len xss)⟩
  · exact ⟨Nat.zero_le _, Nat.zero_le _⟩

/-! Designs out of sets that may be empty: values. Mathematics alone. -/
section
open Go.RowKit
set_option linter.unusedVariables false
set_option linter.unusedSimpArgs false

def anyE (Ls : List (List Int)) : Bool := Ls.any (fun l => l.isEmpty)
/-- The design with some sets: number of points, blocks, code. -/
def dxN (n : Int) (Ls : List (List Int)) : Int := if anyE Ls then 0 else if 128 < Ls.length then 0 else n
def dxL (Ls : List (List Int)) : List (List Int) := if anyE Ls then [] else if 128 < Ls.length then [] else sortL Ls
def dxC (Ls : List (List Int)) : Int := if anyE Ls then 6 else if 128 < Ls.length then 5 else 0
theorem anyE_true {Ls : List (List Int)} {i : Nat} (hi : i < Ls.length) (h : Ls.getD i [] = []) : anyE Ls = true := by
  unfold anyE; rw [List.any_eq_true]
  refine ⟨Ls.getD i [], ?_, by rw [h]; rfl⟩
  rw [List.getD_eq_getElem?_getD, List.getElem?_eq_getElem hi]; exact List.getElem_mem _
theorem anyE_false {Ls : List (List Int)} (h : ∀ i, i < Ls.length → Ls.getD i [] ≠ []) : anyE Ls = false := by
  unfold anyE; rw [List.any_eq_false]
  intro l hl e
  obtain ⟨i, hi, el⟩ := mem_getD hl
  exact h i hi (by rw [el]; simpa using e)
theorem ptsN_nil (x : Nat) (hx : x < 4294967296) : ptsN x = [] ↔ x = 0 := by
  constructor
  · intro h
    apply bits_ext
    intro i
    cases b : x.testBit i with
    | false => rfl
    | true =>
      have : (i : Int) ∈ ptsN x := (fls_mem 32 _ _).2 ⟨i, bit_lt (by omega) b, b, rfl⟩
      rw [h] at this; cases this
  · rintro rfl
    rw [List.eq_nil_iff_forall_not_mem]
    intro z hz
    obtain ⟨k, -, h, -⟩ := (fls_mem 32 _ _).1 hz
    simp at h
theorem zero_any {m : Nat} {S : Nat → Nat} (hS : ∀ i, i < m → S i < 4294967296) : zeroB m S = anyE (ptsL m S) := by
  cases h : anyE (ptsL m S) with
  | false =>
    refine zero_false fun i hi e => ?_
    have := anyE_true (Ls := ptsL m S) (i := i) (by rw [ptsL_len]; exact hi) (by rw [ptsL_at m S i hi]; exact (ptsN_nil _ (hS i hi)).2 e)
    rw [h] at this; cases this
  | true =>
    unfold anyE at h
    rw [List.any_eq_true] at h
    obtain ⟨l, hl, e⟩ := h
    obtain ⟨i, hi, el⟩ := mem_getD hl
    rw [ptsL_len] at hi
    rw [ptsL_at m S i hi] at el
    exact zero_true hi ((ptsN_nil _ (hS i hi)).1 (by rw [el]; simpa using e))
theorem dx_des (n : Int) {m : Nat} {S : Nat → Nat} (hS : ∀ i, i < m → S i < 4294967296) : desN n m S = dxN n (ptsL m S) ∧ desL m S = dxL (ptsL m S) ∧ desC m S = dxC (ptsL m S) := by
  unfold desN desL desC dxN dxL dxC
  rw [zero_any hS, ptsL_len]
  exact ⟨rfl, rfl, rfl⟩
theorem dx_mk {n : Int} {Ls : List (List Int)} (h1 : 1 ≤ n) (h2 : n ≤ 32) (he : anyE Ls = false) (hr : ∀ i, i < Ls.length → Rises 0 (n - 1) (Ls.getD i [])) : mkN n Ls = dxN n Ls ∧ mkL n Ls = dxL Ls ∧ mkC n Ls = dxC Ls := by
  have hb : blksB n Ls = true := blksB_true ⟨h1, h2, fun i hi => ⟨by
    cases e : Ls.getD i [] with
    | nil => rw [anyE_true hi e] at he; cases he
    | cons => simp, hr i hi⟩⟩
  unfold mkN mkL mkC dxN dxL dxC
  rw [hb, he]
  exact ⟨rfl, rfl, rfl⟩
theorem dx_empty (n : Int) {Ls : List (List Int)} (he : anyE Ls = true) : dxN n Ls = 0 ∧ dxL Ls = [] ∧ dxC Ls = 6 := by
  unfold dxN dxL dxC; rw [he]; exact ⟨rfl, rfl, rfl⟩
theorem dxL_tot (Ls : List (List Int)) : tot (dxL Ls) ≤ tot Ls ∧ (dxL Ls).length ≤ Ls.length := by
  unfold dxL
  split
  · exact ⟨Nat.zero_le _, Nat.zero_le _⟩
  · split
    · exact ⟨Nat.zero_le _, Nat.zero_le _⟩
    · exact ⟨Nat.le_of_eq (tot_perm (sortL_perm Ls)), Nat.le_of_eq (sortL_len Ls)⟩
/-- Lists of numbers with a property. -/
def setsL (N m : Nat) (P : Nat → Nat → Bool) : List (List Int) := (List.range N).map (fun k => fls m (P k))
theorem setsL_len (N m : Nat) (P : Nat → Nat → Bool) : (setsL N m P).length = N := by simp [setsL]
theorem setsL_at (N m : Nat) (P : Nat → Nat → Bool) (k : Nat) (hk : k < N) : (setsL N m P).getD k [] = fls m (P k) := by
  unfold setsL; rw [List.getD_eq_getElem?_getD, List.getElem?_eq_getElem (by simpa using hk)]; simp
theorem setsL_succ (N m : Nat) (P : Nat → Nat → Bool) : setsL (N + 1) m P = setsL N m P ++ [fls m (P N)] := by simp [setsL, List.range_succ]
theorem setsL_tot (N m : Nat) (P : Nat → Nat → Bool) : tot (setsL N m P) ≤ N * m := by
  induction N with
  | zero => simp [setsL, tot]
  | succ N ih =>
    rw [setsL_succ, tot_append, tot_cons, tot_nil, Nat.succ_mul]
    have := fls_len m (P N)
    omega
theorem fls_rises (m : Nat) (P : Nat → Bool) : Rises 0 ((m : Int) - 1) (fls m P) := by
  intro i hi
  unfold okAt
  have hm : (fls m P).getD i 0 ∈ fls m P := by rw [List.getD_eq_getElem?_getD, List.getElem?_eq_getElem hi]; exact List.getElem_mem _
  obtain ⟨k, h1, -, e⟩ := (fls_mem m P _).1 hm
  refine ⟨by omega, by omega, fun h0 => ?_⟩
  have := List.pairwise_iff_getElem.1 (fls_sorted P m) (i - 1) i (by omega) hi (by omega)
  rw [List.getD_eq_getElem?_getD, List.getD_eq_getElem?_getD, List.getElem?_eq_getElem (by omega : i - 1 < (fls m P).length), List.getElem?_eq_getElem hi]
  exact this
/-- The sets' bits. -/
theorem pts_fls {x m : Nat} {P : Nat → Bool} (hm : m ≤ 32) (h : ∀ i, x.testBit i = (decide (i < m) && P i)) : ptsN x = fls m P := by
  refine sorted_ext _ _ (fls_sorted _ _) (fls_sorted _ _) fun z => ?_
  show z ∈ fls 32 _ ↔ _
  rw [fls_mem, fls_mem]
  constructor
  · rintro ⟨k, -, h2, rfl⟩
    rw [h k, Bool.and_eq_true] at h2
    exact ⟨k, of_decide_eq_true h2.1, h2.2, rfl⟩
  · rintro ⟨k, h1, h2, rfl⟩
    exact ⟨k, by omega, by rw [h k, decide_eq_true h1, h2]; rfl, rfl⟩
theorem ptsL_sets {N m : Nat} {S : Nat → Nat} {P : Nat → Nat → Bool} (hm : m ≤ 32) (h : ∀ k, k < N → ∀ i, (S k).testBit i = (decide (i < m) && P k i)) : ptsL N S = setsL N m P := by
  unfold ptsL setsL
  exact List.map_congr_left fun k hk => pts_fls hm (h k (List.mem_range.1 hk))
end
end
end
end Go.Proofs.YtdhlnagkhkcoiaaDoor
