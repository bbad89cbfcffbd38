/- Slices of slices of integers: comparing, marking, reading the marks, copying, measuring. -/
import Derived.Test.YtodlcjdbpibacaaRowA
namespace Go.Proofs.Ytodlcjdbpibacaa
open Go.RowKit
set_option linter.unusedVariables false

theorem quiet_drew2 {P : Program} {f : FuncId} {args : Array Value} {w : World} {d n : Nat} {v : Value}
    (h : Calls P f args (w.drewN (d + n)) fun e w' => e = .returned v ∧ ∃ m, w' = (w.drewN (d + n)).drewN m) : Calls P f args (w.drewN (d + n)) fun e w'' => e = .returned v ∧ ∃ m, w'' = w.drewN (d + m) :=
  h.mono fun _ _ ⟨he, m, hm⟩ => ⟨he, n + m, by rw [hm, World.drewN_drewN, Nat.add_assoc]⟩

/-- Two slices of slices that read alike are equal. -/
theorem eq_rows (w : World) (u v : Value) (xss : List (List Int)) (hu : RowsAt w u xss) (hv : RowsAt w v xss) :
    Calls Try.prog 9 #[u, v] w fun e w' => e = .returned (.bool true) ∧ ∃ n, w' = w.drewN n := by
  have hml := hu.1
  obtain ⟨a, cap, rfl, hc⟩ := hu.shape
  obtain ⟨b, capb, rfl, hd⟩ := hv.shape
  obtain ⟨m, hm⟩ : ∃ m, xss.length = m := ⟨_, rfl⟩
  rw [hm] at hc hd hml ⊢
  have HC := Lib.hid hc
  have HD := Lib.hid hd
  have t : ((m : Int) != (m : Int)) = false := by simp
  clear hc hd hu hv hm
  go_enter Try.func9, Try.ntmps9
  go_wp2
  go_loopw [5] (fun i wr => ∃ j : Nat, j ≤ m ∧ i = .int .i64 j ∧ ∃ d, wr = w.drewN d) (fun i _ => m - (intOf i).toNat)
  case atStart => exact ⟨0, by omega, rfl, 0, rfl⟩
  case round =>
    obtain ⟨j, hj, rfl, d, rfl⟩ := hrel
    by_cases c : j < m
    · have g1 : decide (j < m) = true := by simpa using c
      obtain ⟨g, off, x, rfl, c1, hx⟩ := HC.out j c
      obtain ⟨g', off', y, rfl, c2, hy⟩ := HD.out j c
      obtain ⟨zs, hz⟩ : ∃ zs, xss.getD j [] = zs := ⟨_, rfl⟩
      rw [hz] at hx hy
      have HE := Lib.hid (fun W (h1 : IntsAt W x zs) (h2 : IntsAt W y zs) => eq_same W x y zs h1 h2)
      have HX := Lib.hid (fun k => (hx.drewN d).drewN k)
      have HY := Lib.hid (fun k => (hy.drewN d).drewN k)
      have HX2 := Lib.hid (fun k => hx.drewN k)
      have HY2 := Lib.hid (fun k => hy.drewN k)
      have j0 : (0 : Int) ≤ (j : Int) := by omega
      have j1 : (j : Int) < (m : Int) := by omega
      have w3 := IntWalk.i64_in ((j : Int) + 1) (by omega)
      clear hz hx hy
      go_wp2
      go_quiet ((go_at_call 10; first | exact Calls.quiet_of (HE.out _ (HX.out _) (HY.out _)) | exact quiet_drew2 (HE.out _ (HX2.out _) (HY2.out _))))
      go_wp2
      go_roundw
      case rel => exact ⟨j + 1, by omega, by go_num, _, rfl⟩
      case measure => simp [intOf]; omega
    · have g1 : decide (j < m) = false := by simpa using c
      go_wp2
      go_ret
      exact ⟨rfl, _, rfl⟩

/-- The marks of all rows, one after the other. -/
def marksR : Int → List (List Int) → List (List Int)
  | _, [] => []
  | k, r :: xss => marks k r.length :: marksR (k + r.length) xss
theorem marksR_length : ∀ (k : Int) (xss : List (List Int)), (marksR k xss).length = xss.length
  | _, [] => rfl
  | k, r :: xss => by rw [marksR, List.length_cons, List.length_cons, marksR_length]
theorem marksR_tot : ∀ (k : Int) (xss : List (List Int)), tot (marksR k xss) = tot xss
  | _, [] => rfl
  | k, r :: xss => by rw [marksR, tot_cons, tot_cons, marksR_tot, marks_length]
/-- How many numbers stand ahead of a row. -/
def ahead (xss : List (List Int)) (j : Nat) : Nat := tot (xss.take j)
theorem ahead_succ {xss : List (List Int)} {j : Nat} (h : j < xss.length) : ahead xss (j + 1) = ahead xss j + (xss.getD j []).length := by
  unfold ahead
  rw [List.take_succ_eq_append_getElem h, tot_append]
  simp [tot, List.getD, List.getElem?_eq_getElem h]
theorem ahead_all (xss : List (List Int)) : ahead xss xss.length = tot xss := by unfold ahead; rw [List.take_length]
theorem ahead_le (xss : List (List Int)) (j : Nat) : ahead xss j ≤ tot xss := by
  have := tot_append (xss.take j) (xss.drop j)
  rw [List.take_append_drop] at this
  unfold ahead; omega
theorem marksR_getD : ∀ (xss : List (List Int)) (k : Int) (j : Nat), j < xss.length → (marksR k xss).getD j [] = marks (k + ahead xss j) (xss.getD j []).length
  | [], _, j, h => by simp at h
  | r :: xss, k, 0, _ => by
    simp [marksR, ahead, tot]
  | r :: xss, k, j + 1, h => by
    have ih := marksR_getD xss (k + r.length) j (by simpa using h)
    have e : ahead (r :: xss) (j + 1) = r.length + ahead xss j := by unfold ahead; rw [List.take_succ_cons, tot_cons]
    rw [marksR, List.getD_cons_succ, List.getD_cons_succ, ih, e]
    congr 1
    omega

/-- Marks are found again. -/
theorem held_rows (w : World) (v : Value) (k : Int) (xss : List (List Int)) (hv : RowsAt w v (marksR k xss)) (k0 : 0 ≤ k) (k1 : k + tot xss ≤ 9000000000000000000) :
    Calls Try.prog 13 #[v, .int .i64 k] w fun e w' => e = .returned (.int .i64 (k + tot xss)) ∧ ∃ n, w' = w.drewN n := by
  have hml := hv.1
  obtain ⟨a, cap, rfl, hc⟩ := hv.shape
  rw [marksR_length] at hc hml ⊢
  have HA := Lib.hid (fun j h => ahead_succ (xss := xss) (j := j) h)
  have HL := Lib.hid (fun j => ahead_le xss j)
  have HZ := Lib.hid (ahead_all xss)
  have HG := Lib.hid (fun j h => marksR_getD xss k j h)
  obtain ⟨m, hm⟩ : ∃ m, xss.length = m := ⟨_, rfl⟩
  rw [hm] at hc hml HA HZ HG ⊢
  obtain ⟨t, ht⟩ : ∃ t, tot xss = t := ⟨_, rfl⟩
  rw [ht] at HL HZ k1 ⊢
  have HC := Lib.hid hc
  have a0 : ahead xss 0 = 0 := rfl
  clear hc hv hm ht
  go_enter Try.func13, Try.ntmps13
  go_wp2
  go_loop [1, 5] (fun u i => ∃ j : Nat, j ≤ m ∧ i = .int .i64 j ∧ u = .int .i64 (k + ahead xss j)) (fun _ i => m - (intOf i).toNat)
  case atStart => exact ⟨0, by omega, rfl, by rw [a0]; simp⟩
  case round =>
    obtain ⟨j, hj, rfl, rfl⟩ := hrel
    have hlj := HL.out j
    by_cases c : j < m
    · have g1 : decide (j < m) = true := by simpa using c
      obtain ⟨g, off, x, rfl, c1, hx⟩ := HC.out j c
      rw [HG.out j c] at hx
      have hs := HA.out j c
      have hl2 := HL.out (j + 1)
      obtain ⟨n, hn⟩ : ∃ n, (xss.getD j []).length = n := ⟨_, rfl⟩
      rw [hn] at hx hs
      obtain ⟨q, hq⟩ : ∃ q, ahead xss j = q := ⟨_, rfl⟩
      rw [hq] at hx hs hlj ⊢
      obtain ⟨q', hq'⟩ : ∃ q', ahead xss (j + 1) = q' := ⟨_, rfl⟩
      rw [hq'] at hs hl2
      have HH := Lib.hid (held_marks w x (k + q) n hx (by omega) (by omega))
      have j0 : (0 : Int) ≤ (j : Int) := by omega
      have j1 : (j : Int) < (m : Int) := by omega
      have w3 := IntWalk.i64_in ((j : Int) + 1) (by omega)
      have tn : decide (k + (q : Int) + (n : Int) < 0) = false := decide_eq_false (by omega)
      clear hx hn hq
      go_wp2_with fail
      refine HH.out.mono ?_
      rintro e w' ⟨rfl, rfl⟩
      go_wp2
      go_round
      case rel => exact ⟨j + 1, by omega, by go_num, by rw [hq']; go_num⟩
      case measure => simp [intOf]; omega
    · have g1 : decide (j < m) = false := by simpa using c
      obtain rfl : j = m := by omega
      have hz := HZ.out
      go_wp2
      go_ret
      exact ⟨rfl, 0, rfl⟩

/-- Rows of which some are marked. -/
def partM (k : Int) (xss : List (List Int)) (j : Nat) : List (List Int) := (marksR k xss).take j ++ xss.drop j
theorem partM_zero (k : Int) (xss : List (List Int)) : partM k xss 0 = xss := by simp [partM]
theorem partM_length (k : Int) (xss : List (List Int)) (j : Nat) : (partM k xss j).length = xss.length := by
  unfold partM
  rw [List.length_append, List.length_take, List.length_drop, marksR_length]; omega
theorem partM_all (k : Int) (xss : List (List Int)) : partM k xss xss.length = marksR k xss := by
  unfold partM
  rw [List.drop_length, List.append_nil, List.take_of_length_le (by rw [marksR_length]; exact Nat.le_refl _)]
theorem partM_lt (k : Int) (xss : List (List Int)) (j i : Nat) (h : i < j) (hi : i < xss.length) : (partM k xss j).getD i [] = (marksR k xss).getD i [] := by
  unfold partM
  simp [List.getD, List.getElem?_append_left (show i < ((marksR k xss).take j).length by rw [List.length_take, marksR_length]; omega), h]
theorem partM_ge (k : Int) (xss : List (List Int)) (j i : Nat) (h : j ≤ i) (hj : j ≤ xss.length) : (partM k xss j).getD i [] = xss.getD i [] := by
  unfold partM
  have e : ((marksR k xss).take j).length = j := by rw [List.length_take, marksR_length]; omega
  simp [List.getD, List.getElem?_append_right (show ((marksR k xss).take j).length ≤ i by omega), e, List.getElem?_drop, show j + (i - j) = i by omega]

/-- A row of rows of the call's own is marked. -/
theorem RowsL.mark_row {w w' : World} {B L : Nat} {v : Value} {k : Int} {xss : List (List Int)} {j : Nat} (us : List Value) (hus : us.length = xss.length) (hj : j < xss.length)
    (ho : w.ownsRow B 23 1 v xss.length us) (hv : ∀ k, v.ownBlock = some k → k < L) (hL : L ≤ w.heap.size)
    (hr : ∀ i, i < xss.length → IntsL w B L (us.getD i undef) ((partM k xss j).getD i []))
    (hd : ∀ i j, i < j → j < xss.length → (us.getD i undef).ownBlock = none ∨ (us.getD i undef).ownBlock ≠ (us.getD j undef).ownBlock)
    (hm : IntsL w' B L (us.getD j undef) (marks (k + ahead xss j) (xss.getD j []).length)) (hg : w.grownBy w' (us.getD j undef).ownBlock) (hs : w'.heap.size = w.heap.size) :
    w'.ownsRow B 23 1 v xss.length us ∧ (∀ i, i < xss.length → IntsL w' B L (us.getD i undef) ((partM k xss (j + 1)).getD i [])) ∧ Marked B L w w' := by
  have hb : ∀ q, (us.getD j undef).ownBlock = some q → B ≤ q ∧ q < L := fun q e => ⟨(World.ownsRow.lt (hr j hj).1 q e).1, (hr j hj).2.1 q e⟩
  refine ⟨?_, fun i hi => ?_, Marked.of_grown hg hs hb⟩
  · refine ownsRow_of_block ho (fun q e => hg.block q (World.ownsRow.lt ho q e).2 (fun e2 => ?_))
    -- the outer array holds slices, the row integers
    have h1 := (hr j hj).1
    obtain ⟨_, ⟨rv, _⟩ | ⟨g1, cap1, cur1, rv, _, q1, _⟩⟩ := h1
    · rw [rv] at e2; simp [Value.ownBlock] at e2
    · obtain ⟨_, ⟨rfl, _⟩ | ⟨g2, cap2, cur2, rfl, _, q2, _⟩⟩ := ho
      · simp [Value.ownBlock] at e
      · rw [rv] at e2
        simp [Value.ownBlock] at e e2
        subst e; subst e2
        rw [q1] at q2
        simp only [Option.some.injEq, Obj.cells.injEq] at q2
        exact absurd q2.2.1 (by decide)
  · by_cases c : i = j
    · subst c
      rw [partM_lt k xss (i + 1) i (by omega) hi, marksR_getD xss k i hi]
      exact hm
    · have e : (partM k xss (j + 1)).getD i [] = (partM k xss j).getD i [] := by
        by_cases l : i < j
        · rw [partM_lt k xss _ i (by omega) hi, partM_lt k xss _ i l hi]
        · rw [partM_ge k xss _ i (by omega) (by omega), partM_ge k xss _ i (by omega) (by omega)]
      rw [e]
      have h1 := hr i hi
      refine ⟨h1.1.grown hg ?_, h1.2.1, by rw [hs]; exact h1.2.2⟩
      by_cases l : i < j
      · exact hd i j l hj
      · cases k1 : (us.getD i undef).ownBlock with
        | none => exact .inl rfl
        | some q =>
          right
          intro e2
          rcases hd j i (by omega) hi with h | h
          · rw [h] at e2; cases e2
          · exact h (by rw [k1, ← e2])

set_option maxHeartbeats 1000000 in
theorem mark_rows (w : World) (B L : Nat) (v : Value) (xss : List (List Int)) (k : Int) (h : RowsL w B L v xss) (k0 : 0 ≤ k) (k1 : k + tot xss ≤ 9000000000000000000) :
    Calls Try.prog 11 #[v, .int .i64 k] w fun e w' => e = .returned (.int .i64 (k + tot xss)) ∧ RowsL w' B L v (marksR k xss) ∧ Marked B L w w' := by
  have hat := h.at
  obtain ⟨us, hus, ho, hv, hL, hr, hd⟩ := h
  have hml := hat.1
  obtain ⟨a, cap, rfl, hc⟩ := hat.shape
  have HA := Lib.hid (fun j h => ahead_succ (xss := xss) (j := j) h)
  have HL := Lib.hid (fun j => ahead_le xss j)
  have HZ := Lib.hid (ahead_all xss)
  have HPa := Lib.hid (partM_all k xss)
  have FIN : Hid (∀ w', w'.ownsRow B 23 1 (.slice a xss.length cap) xss.length us → L ≤ w'.heap.size → (∀ i, i < xss.length → IntsL w' B L (us.getD i undef) ((partM k xss xss.length).getD i [])) → RowsL w' B L (.slice a xss.length cap) (marksR k xss)) := fun w' h1 h2 h3 => by
    rw [partM_all] at h3
    exact ⟨us, by rw [marksR_length]; exact hus, by rw [marksR_length]; exact h1, hv, h2, by rw [marksR_length]; exact h3, by rw [marksR_length]; exact hd⟩
  have STEP : Hid (∀ (wr w' : World) (j : Nat), j < xss.length → wr.ownsRow B 23 1 (.slice a xss.length cap) xss.length us → L ≤ wr.heap.size → (∀ i, i < xss.length → IntsL wr B L (us.getD i undef) ((partM k xss j).getD i [])) →
      Ints w' B (us.getD j undef) (marks (k + ahead xss j) (xss.getD j []).length) → wr.grownBy w' (us.getD j undef).ownBlock → w'.heap.size = wr.heap.size →
      w'.ownsRow B 23 1 (.slice a xss.length cap) xss.length us ∧ (∀ i, i < xss.length → IntsL w' B L (us.getD i undef) ((partM k xss (j + 1)).getD i [])) ∧ Marked B L wr w') := fun wr w' j hj h1 h2 h3 h4 h5 h6 =>
    RowsL.mark_row us hus hj h1 hv h2 h3 hd ⟨h4, (h3 j hj).2.1, by rw [h6]; exact h2⟩ h5 h6
  have CELL : Hid (∀ (wr : World) (j : Nat), j < xss.length → wr.ownsRow B 23 1 (.slice a xss.length cap) xss.length us → ∃ g, a = some ⟨g, 0, none⟩ ∧ wr.cell? ⟨g, j, none⟩ = some (us.getD j undef)) := fun wr j hj h1 => by
    have h1' := h1
    obtain ⟨_, ⟨e, e2⟩ | ⟨g, cap', cur, e, _⟩⟩ := h1
    · omega
    · simp only [Value.slice.injEq] at e
      obtain ⟨rfl, -, rfl⟩ := e
      refine ⟨g, rfl, ?_⟩
      rw [h1'.cellAt j (by omega)]
      simp [List.getD, List.getElem?_eq_getElem (show j < us.length by omega)]
  have PG : Hid (∀ j, j < xss.length → (partM k xss j).getD j [] = xss.getD j []) := fun j hj => partM_ge k xss j j (Nat.le_refl _) (by omega)
  have HO := Lib.hid ho
  have HR : Hid (∀ i, i < xss.length → IntsL w B L (us.getD i undef) ((partM k xss 0).getD i [])) := by rw [partM_zero]; exact hr
  have HV := Lib.hid hL
  have a0 : ahead xss 0 = 0 := rfl
  obtain ⟨m, hm⟩ : ∃ m, xss.length = m := ⟨_, rfl⟩
  rw [hm] at HA HZ HPa FIN STEP CELL PG HO HR hml ⊢
  obtain ⟨t, ht⟩ : ∃ t, tot xss = t := ⟨_, rfl⟩
  rw [ht] at HL HZ k1 ⊢
  clear hc hat ho hr hd hus hv hL hm ht
  go_enter Try.func11, Try.ntmps11
  go_wp2
  go_loopw [1, 5] (fun u i wr => ∃ j : Nat, j ≤ m ∧ i = .int .i64 j ∧ u = .int .i64 (k + ahead xss j) ∧ Hid (wr.ownsRow B 23 1 (.slice a m cap) m us) ∧ Hid (∀ i, i < m → IntsL wr B L (us.getD i undef) ((partM k xss j).getD i [])) ∧ Hid (Marked B L w wr)) (fun _ i _ => m - (intOf i).toNat)
  case atStart => exact ⟨0, by omega, rfl, by rw [a0]; simp, HO, HR, Marked.refl _ _ _⟩
  case round =>
    obtain ⟨j, hj, rfl, rfl, hO, hR, hM⟩ := hrel
    have hlj := HL.out j
    have hLs : L ≤ wr.heap.size := by rw [hM.out.size]; exact HV.out
    by_cases c : j < m
    · have g1 : decide (j < m) = true := by simpa using c
      obtain ⟨g, rfl, c1⟩ := CELL.out wr j c hO.out
      have hx := (hR.out j c).1
      rw [PG.out j c] at hx
      have hs := HA.out j c
      have hl2 := HL.out (j + 1)
      have ST := Lib.hid (fun w' => STEP.out wr w' j c hO.out hLs hR.out)
      obtain ⟨x, hxv⟩ : ∃ x, us.getD j undef = x := ⟨_, rfl⟩
      rw [hxv] at hx c1 ST
      obtain ⟨zs, hz⟩ : ∃ zs, xss.getD j [] = zs := ⟨_, rfl⟩
      rw [hz] at hx hs ST
      obtain ⟨q, hq⟩ : ∃ q, ahead xss j = q := ⟨_, rfl⟩
      rw [hq] at hs hlj ST ⊢
      obtain ⟨q', hq'⟩ : ∃ q', ahead xss (j + 1) = q' := ⟨_, rfl⟩
      rw [hq'] at hs hl2
      have HH := Lib.hid (mark_own wr B x zs (k + q) hx (by omega) (by omega))
      have j0 : (0 : Int) ≤ (j : Int) := by omega
      have j1 : (j : Int) < (m : Int) := by omega
      have w3 := IntWalk.i64_in ((j : Int) + 1) (by omega)
      clear hx hz hq hxv
      go_wp2_with fail
      refine HH.out.mono ?_
      rintro e w' ⟨rfl, i1, g1, s1⟩
      obtain ⟨y1, y2, y3⟩ := ST.out w' i1 g1 s1
      have Y1 := Lib.hid y1
      have Y2 := Lib.hid y2
      have Y3 := Lib.hid (hM.out.trans y3)
      clear i1 g1 s1 y1 y2 y3
      go_wp2
      go_roundw
      case rel => exact ⟨j + 1, by omega, by go_num, by rw [hq']; go_num, Y1, Y2, Y3⟩
      case measure => simp [intOf]; omega
    · have g1 : decide (j < m) = false := by simpa using c
      obtain rfl : j = m := by omega
      have hz := HZ.out
      go_wp2
      go_ret
      exact ⟨by rw [← hz]; rfl, FIN.out wr hO.out hLs hR.out, hM.out⟩
end Go.Proofs.Ytodlcjdbpibacaa
