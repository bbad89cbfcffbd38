/- CyclesOf, both sides. -/
import Derived.Maps.OwnIn
import Derived.Maps.AppendAt
import Derived.Test.YtcgmencdadinbaaIss
namespace Go.Proofs.Ytcgmencdadinbaa
open Go.RowKit Go.Shelf
set_option linter.unusedVariables false
attribute [local go_sem] Oper.semAt_some

noncomputable def CyclesOf_0 (xs : List Int) : List (List Int) := if pmB xs = true then cyclesL xs else []
theorem CyclesOf_bad {xs : List Int} (h : pmB xs = false) : CyclesOf_0 xs = [] := by unfold CyclesOf_0; rw [if_neg (by simp [h])]
theorem CyclesOf_ok {xs : List Int} (h : pmB xs = true) : CyclesOf_0 xs = cyclesL xs := by unfold CyclesOf_0; rw [if_pos h]
theorem lenCyclesOf_0 (xs : List Int) (hx : SmallL xs) : tot (CyclesOf_0 xs) ≤ 1000000 := by
  cases h : pmB xs with
  | false => rw [CyclesOf_bad h]; decide
  | true => rw [CyclesOf_ok h]; have := (cyclesL_len (perm01 h)).2; have := (of_pmB h).1; omega

theorem sCyclesOf (xs : List Int) (hx : SmallL xs) (W : World) (v : Value) (hv : IntsC W v xs) :
    Calls Try.prog 31 #[v] W fun e w' => ∃ r, e = .returned r ∧ RowsAt w' r (CyclesOf_0 xs) ∧ Below W.heap.size W w' := by
  have HX := Lib.hid (sok W v xs hv)
  cases hp : pmB xs with
  | false =>
    have V := Lib.hid (CyclesOf_bad hp)
    rw [hp] at HX
    clear hp hv
    go_enter Try.func31, Try.ntmps31
    go_wp2_with fail
    refine HX.out.mono ?_
    rintro e w1 ⟨rfl, k, rfl⟩
    go_wp2
    go_ret
    exact ⟨_, rfl, by rw [V.out]; exact RowsAt.nil _ _ _, Go.below_drewN (Below.refl _ _) k⟩
  | true =>
    have V := Lib.hid (CyclesOf_ok hp)
    rw [hp] at HX
    have T := Lib.hid (fun k => sCycles (W.drewN k) v xs (hv.drewN k) hp)
    clear hp hv
    go_enter Try.func31, Try.ntmps31
    go_wp2_with fail
    refine HX.out.mono ?_
    rintro e w1 ⟨rfl, k, rfl⟩
    go_wp2_with fail
    refine (T.out k).mono ?_
    rintro e w2 ⟨r, rfl, i2, b2⟩
    have I2 := Lib.hid i2.at
    have B2 := Lib.hid (t_chain (Go.below_drewN (Below.refl _ W) k) b2)
    clear i2 b2
    go_wp2
    go_ret
    exact ⟨_, rfl, by rw [V.out]; exact I2.out, B2.out⟩

theorem ownsRow_mono {w : World} {B B' : Nat} {e : TypeId} {size n : Nat} {v : Value} {us : List Value} (h : w.ownsRow B e size v n us) (hB : B' ≤ B) : w.ownsRow B' e size v n us := by
  refine ⟨h.1, ?_⟩
  rcases h.2 with h2 | ⟨g, cap, cur, rfl, h3, h4⟩
  · exact .inl h2
  · exact .inr ⟨g, cap, cur, rfl, by omega, h4⟩
theorem Cycs.rowsL {n₀ B : Nat} {W : World} {Ow : Nat → Prop} {pre : List (Value × List Int)} {vo : Value} (h : Cycs n₀ W Ow pre) (ho : W.ownsRow n₀ 22 1 vo pre.length (pre.map Prod.fst)) (hB : B ≤ n₀) : RowsL W B W.heap.size vo (pre.map Prod.snd) := by
  refine ⟨pre.map Prod.fst, by simp, by rw [List.length_map]; exact ownsRow_mono ho hB, fun k e => (World.ownsRow.lt ho k e).2, Nat.le_refl _, fun j hj => ?_, fun i j hij hj => ?_⟩
  · rw [List.length_map] at hj
    have e1 : (pre.map Prod.fst).getD j undef = (pre[j]).1 := by simp [List.getD, hj]
    have e2 : (pre.map Prod.snd).getD j [] = (pre[j]).2 := by simp [List.getD, hj]
    rw [e1, e2]
    have r := h.rows pre[j] (List.getElem_mem hj)
    exact r.mono hB (Nat.le_refl _) (Nat.le_refl _)
  · rw [List.length_map] at hj
    have e1 : (pre.map Prod.fst).getD i undef = (pre[i]).1 := by simp [List.getD, Nat.lt_trans hij hj]
    have e2 : (pre.map Prod.fst).getD j undef = (pre[j]).1 := by simp [List.getD, hj]
    rw [e1, e2]
    exact (List.pairwise_iff_getElem.1 h.apart) i j (Nat.lt_trans hij hj) hj hij
theorem ownsRow.ne_obj {w : World} {B D n size : Nat} {e : TypeId} {v : Value} {us : List Value} {ds : Option (List Deferred)} (h : w.ownsRow B e size v n us) (hb : w.heap[D]? = some (.deferred ds)) (hv : v.ownBlock = some D) : False := by
  obtain ⟨_, ⟨rfl, _⟩ | ⟨g, cap, cur, rfl, _, q2, _⟩⟩ := h
  · simp [Value.ownBlock] at hv
  · simp only [Value.ownBlock, Option.some.injEq] at hv
    subst hv
    rw [hb] at q2
    simp at q2
theorem RowsL.putObj {w : World} {B L D : Nat} {v : Value} {xss : List (List Int)} {o : Obj} {ds : Option (List Deferred)} (h : RowsL w B L v xss) (hK : w.heap[D]? = some (.deferred ds)) : RowsL (w.putObj D o) B L v xss := by
  obtain ⟨us, e, ho, hk, hL, hr, hd⟩ := h
  have oth : ∀ k, k ≠ D → (w.putObj D o).heap[k]? = w.heap[k]? := fun k hk => World.putObj_heap_other hk
  refine ⟨us, e, ownsRow_of_block ho (fun k e => oth k (fun e2 => ownsRow.ne_obj ho hK (e2 ▸ e))), hk, by simp [World.putObj]; exact hL, fun j hj => ?_, hd⟩
  have r := hr j hj
  exact ⟨ownsRow_of_block r.1 (fun k e => oth k (fun e2 => ownsRow.ne_obj r.1 hK (e2 ▸ e))), r.2.1, by simp [World.putObj]; exact hL⟩

set_option maxRecDepth 100000 in
set_option maxHeartbeats 2000000 in
theorem iCyclesOf (xs : List Int) (hx : SmallL xs) (W : World) (v : Value) (hv : IntsC W v xs) :
    Calls Try.prog 32 #[v] W fun e w' => ∃ r, e = .returned r ∧ RowsL w' W.heap.size w'.heap.size r (CyclesOf_0 xs) ∧ Below W.heap.size W w' := by
  have HX := Lib.hid (iok W v xs hv)
  cases hp : pmB xs with
  | false =>
    have V := Lib.hid (CyclesOf_bad hp)
    rw [hp] at HX
    clear hp hv
    go_enter Try.func32, Try.ntmps32
    go_wp2_with fail
    refine HX.out.mono ?_
    rintro e w1 ⟨rfl, b1⟩
    have B1 := Lib.hid b1
    clear b1
    go_wp2
    go_ret
    exact ⟨_, rfl, by rw [V.out]; exact RowsL.nil _ _ _ (Nat.le_refl _), B1.out⟩
  | true =>
    have V := Lib.hid (CyclesOf_ok hp)
    rw [hp] at HX
    have hmf : ∀ (fn : Fn) (first cap : Array Value) (w : World), (Instr.makeFunc fn first cap).run Try.prog w = .ok (.func fn first cap) w := fun _ _ _ _ => rfl
    have LN := cyclesL_len (perm01 hp)
    have l32 := (of_pmB hp).1
    refine (callsIn_wide (n := 3)).1 ?_
    refine callsIn_of_wp_marks Try.func32 rfl trivial ?_ rfl
    simp only [Try.ntmps32, List.size_toArray, List.length_cons, List.length_nil, Nat.reduceAdd, Nat.reduceSub, Array.replicate_succ, Array.replicate_zero, List.push_toArray, List.append_toArray, List.nil_append, List.cons_append]
    gi_wp2_with fail
    refine ⟨trivial, ?_⟩
    refine (callsIn_wide.2 HX.out).mono ?_
    rintro e w1 ⟨rfl, b1⟩
    have B1 := Lib.hid b1
    clear b1
    gi_wp2
    obtain ⟨b, hb⟩ : ∃ b, w1.heap.size = b := ⟨_, rfl⟩
    have Z0 : Hid (Box (w1.alloc (.cells #[.slice none 0 0] 34)) 34 b (.slice none 0 0)) := by rw [← hb]; exact cell_box _ _ _
    have Z1 : Hid (Below W.heap.size W (w1.alloc (.cells #[.slice none 0 0] 34))) := B1.out.alloc B1.out.size _
    have Z2 : (w1.alloc (.cells #[.slice none 0 0] 34)).heap.size = b + 1 := by rw [World.size_alloc, hb]
    have Z3 : W.heap.size ≤ b := by have := B1.out.size; omega
    obtain ⟨wb, hwb⟩ : ∃ wb, w1.alloc (.cells #[.slice none 0 0] 34) = wb := ⟨_, rfl⟩
    rw [hb]
    rw [hwb] at Z0 Z1 Z2 ⊢
    clear hwb hb
    refine range_cycles W W.heap.size v xs rfl (by omega) Z1.out (fun W' h => hv.below h (Nat.le_refl _)) hp
      (fun pre Ow W' => ∃ vo, Box W' 34 b vo ∧ W'.ownsRow wb.heap.size 22 1 vo pre.length (pre.map Prod.fst) ∧ ∀ k, vo.ownBlock = some k → Ow k)
      (fun pre Ow A B h hb hk => by
        obtain ⟨vo, h1, h2, h3⟩ := h
        exact ⟨vo, h1.below hb (by omega), ownsRow_of_block h2 (fun k e => hk k (h3 k e)), h3⟩) ⟨_, Z0.out, World.ownsRow_nil _ _ _ _, fun k e => by simp [Value.ownBlock] at e⟩
      (fun x => { tmps := #[v, undef, .slice none 0 0, .pointer (some ⟨b, 0, none⟩), x, v, .bool true, .bool false, v, .func (.func 65) #[v] #[], x, undef, undef, undef, undef, undef], defers := [] }) ?assign ?body ?done
    case assign =>
      intro l x W' K hK
      gi_wp2
      exact hK
    case body =>
      rintro l pre Ow ⟨xv, ys⟩ W' ⟨vo, hB, hO, hw⟩ pf xl hb hs ix fr ol
      obtain ⟨xa, xc, rfl⟩ : ∃ a c, xv = .slice a ys.length c := ix.c.shape
      have HB := Lib.hid hB
      have HO := Lib.hid hO
      have HW := Lib.hid hw
      have hbc := hB.cell
      have hbl := hB.lt
      have pl : pre.length < 100 := by
        have := List.IsPrefix.length_le pf
        rw [List.length_map, List.length_append] at this
        simp only [List.length_cons, List.length_nil] at this
        omega
      have OL := Lib.hid ol
      obtain ⟨k, hk⟩ : ∃ k, ys.length = k := ⟨_, rfl⟩
      simp only [hk]
      obtain ⟨i0, hi, hz0, hz1, hz2⟩ := info_parts Try.infoRow
      clear pf xl hb ix fr hk hB ol hO hw LN
      have cellA : Hid (∀ o : Obj, (W'.alloc o).cell? ⟨b, 0, none⟩ = some vo) := fun o => by rw [World.cell?_of_block (heap_alloc_old W' o hbl)]; exact hbc
      have KB : Hid (∀ (o : Obj) (w6 : World), (W'.alloc o).grownBy w6 vo.ownBlock → Box w6 34 b vo) := fun o w6 hg =>
        (hg.block b (by simp; omega) (fun e => by have := (World.ownsRow.lt HO.out b e.symm).1; omega)).trans ((heap_alloc_old W' o hbl).trans HB.out)
      gi_wp2_with (gi_at_builtin; refine wpListIn_append_own_at _ (by rfl) _ _ 34 (by rfl) wb.heap.size 22 i0 (.slice none 0 0) 1 24 Try.underlying34 hi hz0 hz1 hz2 rfl (by decide) vo pre.length _ (by rfl) (HO.out.alloc _) ⟨W'.heap.size, 0, none⟩ 1 1 [.slice xa k xc] (by rfl) rfl (cell_one_new _ _ _) (by intro z hz; simp at hz; subst hz; rfl) (by unfold maxLen; omega) (by omega) (by simp; omega) ?_; intro v' w6 h' hg hnil hat; obtain ⟨g', cap', rfl⟩ := ownsRow_succ h'; have N1 := Lib.hid h'; have N2 := Lib.hid hg; have N3 := Lib.hid hat; have N4 := Lib.hid (KB.out _ _ hg); have hc6 := N4.out.cell; have hf6 := N4.out.frozen; clear h' hg hnil hat)
      have gl := (World.ownsRow.lt N1.out g' rfl)
      have al : Below W'.heap.size W' (W'.alloc (.cells #[Value.slice xa k xc] 22)) := (Below.refl _ _).alloc (Nat.le_refl _) _
      have s6 := N2.out.size
      refine ⟨fun k => k = g', fun q hq => ?_, fun q hq => ?_, ⟨_, N4.out.set, ?_, fun q e => ?_⟩, ?_, fun q qn ql qo => ?_⟩
      · subst hq
        rcases N3.out with e | e
        · exact .inl (HW.out _ e.symm)
        · simp only [Value.ownBlock, Option.some.injEq, World.size_alloc] at e
          exact .inr (by omega)
      · subst hq
        simp [World.setCell]; exact gl.2
      · rw [List.length_append, List.map_append]
        exact ownsRow_of_block N1.out (fun q e => Below.heap_setCell w6 ⟨b, 0, none⟩ _ q (fun e2 => by simp only [Value.ownBlock, Option.some.injEq] at e; simp only at e2; omega))
      · simp only [Value.ownBlock, Option.some.injEq] at e; exact e.symm
      · refine ((al.mono (by omega)).trans (?_ : Below W.heap.size _ w6)).setCell (p := ⟨b, 0, none⟩) Z3 _
        exact ⟨N2.out.os, N2.out.tape, N2.out.output, N2.out.size, fun q hq => N2.out.block q (by simp; omega) (fun e => by have := (World.ownsRow.lt HO.out q e.symm).1; omega)⟩
      · exact (Below.heap_setCell w6 ⟨b, 0, none⟩ _ q (by show q ≠ b; omega)).trans ((N2.out.block q (by rw [World.size_alloc]; omega) (fun e => qo (HW.out q e.symm))).trans (al.block q ql))
    case done =>
      rintro D pre Ow W' hD hm ⟨vo, hB, hO, hw⟩ hb hc hK
      have hbc := hB.cell
      have R := (Cycs.rowsL hc hO (B := W.heap.size) (by omega)).putObj (o := .deferred none) hK
      rw [hm] at R
      gi_wp2
      refine ⟨by simp, .inl ⟨_, _, rfl, run_takeDeferred hK, ?_⟩⟩
      refine ⟨_, results_tmp rfl _ _ _, _, rfl, ?_, hb.trans (below_putObj W' D _ (by omega))⟩
      rw [V.out]
      have sz : (W'.putObj D (.deferred none)).heap.size = W'.heap.size := by simp [World.putObj]
      rw [sz]
      exact R
end Go.Proofs.Ytcgmencdadinbaa
