/- Slices of slices of slices of the call's own: marking, reading the marks, appending. -/
import Derived.Test.YtkonddifmonkcaaRss
import Derived.Maps.AppendAt
namespace Go.Proofs.Ytkonddifmonkcaa
open Go.RowKit
set_option linter.unusedVariables false

def totQ : List (List (List Int)) → Nat
  | [] => 0
  | x :: q => tot x + totQ q
theorem totQ_append : ∀ (p q : List (List (List Int))), totQ (p ++ q) = totQ p + totQ q
  | [], q => by simp [totQ]
  | x :: p, q => by rw [List.cons_append, totQ, totQ, totQ_append p q]; omega
theorem totQ_le : ∀ (q : List (List (List Int))), totQ q ≤ szQ q
  | [] => Nat.le_refl _
  | x :: q => by have := totQ_le q; rw [totQ, szQ]; omega
def marksQ : Int → List (List (List Int)) → List (List (List Int))
  | _, [] => []
  | k, x :: q => marksR k x :: marksQ (k + tot x) q
theorem marksQ_length : ∀ (k : Int) (q : List (List (List Int))), (marksQ k q).length = q.length
  | _, [] => rfl
  | k, x :: q => by rw [marksQ, List.length_cons, List.length_cons, marksQ_length]
def aheadQ (q : List (List (List Int))) (j : Nat) : Nat := totQ (q.take j)
theorem aheadQ_succ {q : List (List (List Int))} {j : Nat} (h : j < q.length) : aheadQ q (j + 1) = aheadQ q j + tot (q.getD j []) := by
  unfold aheadQ
  rw [List.take_succ_eq_append_getElem h, totQ_append]
  simp [totQ, List.getD, List.getElem?_eq_getElem h]
theorem aheadQ_all (q : List (List (List Int))) : aheadQ q q.length = totQ q := by unfold aheadQ; rw [List.take_length]
theorem aheadQ_le (q : List (List (List Int))) (j : Nat) : aheadQ q j ≤ totQ q := by
  have := totQ_append (q.take j) (q.drop j)
  rw [List.take_append_drop] at this
  unfold aheadQ; omega
theorem marksQ_getD : ∀ (q : List (List (List Int))) (k : Int) (j : Nat), j < q.length → (marksQ k q).getD j [] = marksR (k + aheadQ q j) (q.getD j [])
  | [], k, j, h => by simp at h
  | x :: q, k, 0, _ => by simp [marksQ, aheadQ, totQ]
  | x :: q, k, j + 1, h => by
    have ih := marksQ_getD q (k + tot x) j (by simpa using h)
    have e1 : (marksQ k (x :: q)).getD (j + 1) [] = (marksQ (k + tot x) q).getD j [] := by rw [marksQ]; simp [List.getD]
    have e2 : (x :: q).getD (j + 1) [] = q.getD j [] := by simp [List.getD]
    have e3 : aheadQ (x :: q) (j + 1) = tot x + aheadQ q j := by unfold aheadQ; rw [List.take_succ_cons, totQ]
    rw [e1, e2, ih, e3]
    congr 1
    omega
def partQ (k : Int) (q : List (List (List Int))) (j : Nat) : List (List (List Int)) := (marksQ k q).take j ++ q.drop j
theorem partQ_zero (k : Int) (q : List (List (List Int))) : partQ k q 0 = q := by simp [partQ]
theorem partQ_all (k : Int) (q : List (List (List Int))) : partQ k q q.length = marksQ k q := by
  unfold partQ
  rw [List.drop_length, List.append_nil, List.take_of_length_le (by rw [marksQ_length]; exact Nat.le_refl _)]
theorem partQ_lt (k : Int) (q : List (List (List Int))) (j i : Nat) (h : i < j) (hi : i < q.length) : (partQ k q j).getD i [] = (marksQ k q).getD i [] := by
  unfold partQ
  simp [List.getD, List.getElem?_append_left (show i < ((marksQ k q).take j).length by rw [List.length_take, marksQ_length]; omega), h]
theorem partQ_ge (k : Int) (q : List (List (List Int))) (j i : Nat) (h : j ≤ i) (hj : j ≤ q.length) : (partQ k q j).getD i [] = q.getD i [] := by
  unfold partQ
  have e : ((marksQ k q).take j).length = j := by rw [List.length_take, marksQ_length]; omega
  simp [List.getD, List.getElem?_append_right (show ((marksQ k q).take j).length ≤ i by omega), e, List.getElem?_drop, show j + (i - j) = i by omega]

/-- Marks are found again. -/
theorem held_q (w : World) (v : Value) (k : Int) (q : List (List (List Int))) (hv : QAt w v (marksQ k q)) (k0 : 0 ≤ k) (k1 : k + totQ q ≤ 9000000000000000000) :
    Calls Try.prog 28 #[v, .int .i64 k] w fun e w' => e = .returned (.int .i64 (k + totQ q)) ∧ ∃ n, w' = w.drewN n := by
  have hml := hv.1
  obtain ⟨a, cap, rfl, -, hc⟩ := hv.shape
  rw [marksQ_length] at hc hml ⊢
  have HA := Lib.hid (fun j h => aheadQ_succ (q := q) (j := j) h)
  have HL := Lib.hid (fun j => aheadQ_le q j)
  have HZ := Lib.hid (aheadQ_all q)
  have HG := Lib.hid (fun j h => marksQ_getD q k j h)
  obtain ⟨m, hm⟩ : ∃ m, q.length = m := ⟨_, rfl⟩
  rw [hm] at hc hml HA HZ HG ⊢
  obtain ⟨t, ht⟩ : ∃ t, totQ q = t := ⟨_, rfl⟩
  rw [ht] at HL HZ k1 ⊢
  have HC := Lib.hid hc
  have a0 : aheadQ q 0 = 0 := rfl
  clear hc hv hm ht
  go_enter Try.func28, Try.ntmps28
  go_wp2
  go_loopw [1, 5] (fun u i wr => ∃ j : Nat, j ≤ m ∧ i = .int .i64 j ∧ u = .int .i64 (k + aheadQ q j) ∧ ∃ d, wr = w.drewN d) (fun _ i _ => m - (intOf i).toNat)
  case atStart => exact ⟨0, by omega, rfl, by rw [a0]; simp, 0, rfl⟩
  case round =>
    obtain ⟨j, hj, rfl, rfl, d, rfl⟩ := hrel
    have hlj := HL.out j
    by_cases c : j < m
    · have g1 : decide (j < m) = true := by simpa using c
      obtain ⟨g, off, x, rfl, -, c1, hx⟩ := HC.out j c
      rw [HG.out j c] at hx
      have hs := HA.out j c
      have hl2 := HL.out (j + 1)
      obtain ⟨xs, hxs⟩ : ∃ xs, q.getD j [] = xs := ⟨_, rfl⟩
      rw [hxs] at hx hs
      obtain ⟨n, hn⟩ : ∃ n, tot xs = n := ⟨_, rfl⟩
      rw [hn] at hs
      obtain ⟨p, hp⟩ : ∃ p, aheadQ q j = p := ⟨_, rfl⟩
      rw [hp] at hx hs hlj ⊢
      obtain ⟨p', hp'⟩ : ∃ p', aheadQ q (j + 1) = p' := ⟨_, rfl⟩
      rw [hp'] at hs hl2
      have HH := Lib.hid (held_rows (w.drewN d) x (k + p) xs (hx.drewN d) (by omega) (by omega))
      rw [hn] at HH
      obtain ⟨xa, xc, rfl, -⟩ := hx.shape
      have j0 : (0 : Int) ≤ (j : Int) := by omega
      have j1 : (j : Int) < (m : Int) := by omega
      have w3 := IntWalk.i64_in ((j : Int) + 1) (by omega)
      have tn : decide (k + (p : Int) + (n : Int) < 0) = false := decide_eq_false (by omega)
      clear hx hn hp hxs
      go_wp2_with fail
      refine HH.out.mono ?_
      rintro e w' ⟨rfl, d2, rfl⟩
      go_wp2
      go_roundw
      case rel => exact ⟨j + 1, by omega, by go_num, by rw [hp']; go_num, _, rfl⟩
      case measure => simp [intOf]; omega
    · have g1 : decide (j < m) = false := by simpa using c
      obtain rfl : j = m := by omega
      have hz := HZ.out
      go_wp2
      go_ret
      exact ⟨by rw [← hz]; rfl, _, rfl⟩

set_option maxHeartbeats 2000000 in
theorem mark_q (w : World) (B L : Nat) (v : Value) (q : List (List (List Int))) (k : Int) (h : QL w B L v q) (k0 : 0 ≤ k) (k1 : k + totQ q ≤ 9000000000000000000) :
    Calls Try.prog 27 #[v, .int .i64 k] w fun e w' => e = .returned (.int .i64 (k + totQ q)) ∧ QL w' B L v (marksQ k q) ∧ Marked B L w w' := by
  have hat := h.at
  obtain ⟨us, lo, hi, hus, ho, hv, hL, hr, hd⟩ := h
  have hml := hat.1
  obtain ⟨a, cap, rfl, -, -⟩ := hat.shape
  have HA := Lib.hid (fun j h => aheadQ_succ (q := q) (j := j) h)
  have HL := Lib.hid (fun j => aheadQ_le q j)
  have HZ := Lib.hid (aheadQ_all q)
  have FIN : Hid (∀ w', w'.ownsRow B 22 1 (.slice a q.length cap) q.length us → L ≤ w'.heap.size → (∀ i, i < q.length → RowsL w' (lo i) (hi i) (us.getD i undef) ((partQ k q q.length).getD i [])) → QL w' B L (.slice a q.length cap) (marksQ k q)) := fun w' h1 h2 h3 => by
    rw [partQ_all] at h3
    exact ⟨us, lo, hi, by rw [marksQ_length]; exact hus, by rw [marksQ_length]; exact h1, by rw [marksQ_length]; exact hv, h2, by rw [marksQ_length]; exact fun j hj => ⟨(hr j hj).1, (hr j hj).2.1, (hr j hj).2.2.1, h3 j hj⟩, by rw [marksQ_length]; exact hd⟩
  have STEP : Hid (∀ (wr w' : World) (j : Nat), j < q.length → wr.ownsRow B 22 1 (.slice a q.length cap) q.length us → (∀ i, i < q.length → RowsL wr (lo i) (hi i) (us.getD i undef) ((partQ k q j).getD i [])) →
      RowsL w' (lo j) (hi j) (us.getD j undef) (marksR (k + aheadQ q j) (q.getD j [])) → Marked (lo j) (hi j) wr w' →
      w'.ownsRow B 22 1 (.slice a q.length cap) q.length us ∧ (∀ i, i < q.length → RowsL w' (lo i) (hi i) (us.getD i undef) ((partQ k q (j + 1)).getD i [])) ∧ Marked B L wr w') := fun wr w' j hj h1 h2 h3 h4 => by
    refine ⟨ownsRow_of_block h1 (fun p e => h4.block p ((hv p e).2 j hj)), fun i hi' => ?_, h4.wider (hr j hj).1 (hr j hj).2.2.1⟩
    by_cases c : i = j
    · subst c
      rw [partQ_lt k q (i + 1) i (by omega) hi', marksQ_getD q k i hi']
      exact h3
    · have e : (partQ k q (j + 1)).getD i [] = (partQ k q j).getD i [] := by
        by_cases l : i < j
        · rw [partQ_lt k q _ i (by omega) hi', partQ_lt k q _ i l hi']
        · rw [partQ_ge k q _ i (by omega) (by omega), partQ_ge k q _ i (by omega) (by omega)]
      rw [e]
      exact (h2 i hi').keep h4 (hd i j c hi' hj)
  have CELL : Hid (∀ (wr : World) (j : Nat), j < q.length → wr.ownsRow B 22 1 (.slice a q.length cap) q.length us → ∃ g, a = some ⟨g, 0, none⟩ ∧ wr.cell? ⟨g, j, none⟩ = some (us.getD j undef)) := fun wr j hj h1 => by
    have h1' := h1
    obtain ⟨_, ⟨e, e2⟩ | ⟨g, cap', cur, e, _⟩⟩ := h1
    · omega
    · simp only [Value.slice.injEq] at e
      obtain ⟨rfl, -, rfl⟩ := e
      refine ⟨g, rfl, ?_⟩
      rw [h1'.cellAt j (by omega)]
      simp [List.getD, List.getElem?_eq_getElem (show j < us.length by omega)]
  have PG : Hid (∀ j, j < q.length → (partQ k q j).getD j [] = q.getD j []) := fun j hj => partQ_ge k q j j (Nat.le_refl _) (by omega)
  have HO := Lib.hid ho
  have HR : Hid (∀ i, i < q.length → RowsL w (lo i) (hi i) (us.getD i undef) ((partQ k q 0).getD i [])) := by rw [partQ_zero]; exact fun i hi' => (hr i hi').2.2.2
  have HV := Lib.hid hL
  have a0 : aheadQ q 0 = 0 := rfl
  obtain ⟨m, hm⟩ : ∃ m, q.length = m := ⟨_, rfl⟩
  rw [hm] at HA HZ FIN STEP CELL PG HO HR hml ⊢
  obtain ⟨t, ht⟩ : ∃ t, totQ q = t := ⟨_, rfl⟩
  rw [ht] at HL HZ k1 ⊢
  clear hat ho hr hd hus hv hL hm ht
  go_enter Try.func27, Try.ntmps27
  go_wp2
  go_loopw [1, 5] (fun u i wr => ∃ j : Nat, j ≤ m ∧ i = .int .i64 j ∧ u = .int .i64 (k + aheadQ q j) ∧ Hid (wr.ownsRow B 22 1 (.slice a m cap) m us) ∧ Hid (∀ i, i < m → RowsL wr (lo i) (hi i) (us.getD i undef) ((partQ k q j).getD i [])) ∧ Hid (Marked B L w wr)) (fun _ i _ => m - (intOf i).toNat)
  case atStart => exact ⟨0, by omega, rfl, by rw [a0]; simp, HO, HR, Marked.refl _ _ _⟩
  case round =>
    obtain ⟨j, hj, rfl, rfl, hO, hR, hM⟩ := hrel
    have hlj := HL.out j
    have hLs : L ≤ wr.heap.size := by rw [hM.out.size]; exact HV.out
    by_cases c : j < m
    · have g1 : decide (j < m) = true := by simpa using c
      obtain ⟨g, rfl, c1⟩ := CELL.out wr j c hO.out
      have hx := hR.out j c
      rw [PG.out j c] at hx
      have hs := HA.out j c
      have hl2 := HL.out (j + 1)
      have ST := Lib.hid (fun w' => STEP.out wr w' j c hO.out hR.out)
      obtain ⟨x, hxv⟩ : ∃ x, us.getD j undef = x := ⟨_, rfl⟩
      rw [hxv] at hx c1 ST
      obtain ⟨zs, hz⟩ : ∃ zs, q.getD j [] = zs := ⟨_, rfl⟩
      rw [hz] at hx hs ST
      obtain ⟨p, hp⟩ : ∃ p, aheadQ q j = p := ⟨_, rfl⟩
      rw [hp] at hs hlj ST ⊢
      obtain ⟨p', hp'⟩ : ∃ p', aheadQ q (j + 1) = p' := ⟨_, rfl⟩
      rw [hp'] at hs hl2
      have HH := Lib.hid (mark_rows wr (lo j) (hi j) x zs (k + p) hx (by omega) (by omega))
      obtain ⟨xa, xc, rfl, -⟩ := hx.at.shape
      obtain ⟨zt, hzt⟩ : ∃ n, tot zs = n := ⟨_, rfl⟩
      rw [hzt] at HH hs
      have j0 : (0 : Int) ≤ (j : Int) := by omega
      have j1 : (j : Int) < (m : Int) := by omega
      have w3 := IntWalk.i64_in ((j : Int) + 1) (by omega)
      clear hx hz hp hxv hzt
      go_wp2_with fail
      refine HH.out.mono ?_
      rintro e w' ⟨rfl, i1, m1⟩
      obtain ⟨y1, y2, y3⟩ := ST.out w' i1 m1
      have Y1 := Lib.hid y1
      have Y2 := Lib.hid y2
      have Y3 := Lib.hid (hM.out.trans y3)
      clear i1 m1 y1 y2 y3
      go_wp2
      go_roundw
      case rel => exact ⟨j + 1, by omega, by go_num, by rw [hp']; go_num, Y1, Y2, Y3⟩
      case measure => simp [intOf]; omega
    · have g1 : decide (j < m) = false := by simpa using c
      obtain rfl : j = m := by omega
      have hz := HZ.out
      go_wp2
      go_ret
      exact ⟨by rw [← hz]; rfl, FIN.out wr hO.out hLs hR.out, hM.out⟩

/-- An append of the call's own that says which block it leaves, at one operation. -/
theorem wp_append_at {P : Program} {o : Oper} {a : Act} {K : Act → World → Prop} {Q : Exit → Act → World → Prop} (w : World) (s x : Operand) (t : TypeId)
    (ho : o.op = .call { callee := .builtin .append, args := #[s, x], argTypes := #[t, t] })
    (base : Nat) (e : TypeId) (i : TypeInfo) (z : Value) (size bytes : Nat) (ht : P.underlying t = some (.slice e)) (hi : P.info? e = some i) (hz : i.zero = some z)
    (hsize : i.size = size) (hby : i.bytes = bytes) (hzs : z.cells.size = size) (hsz : 0 < size)
    (v : Value) (n : Nat) (xs : List Value) (hs : a.eval s = v) (hown : w.ownsRow base e size v n xs)
    (ad : Addr) (m c : Nat) (news : List Value) (hx : a.eval x = .slice (some ad) m c) (hl : news.length = m * size) (hnews : ∀ j u, news[j]? = some u → w.cell? (ad.add j) = some u) (h1 : ∀ u ∈ news, u.oneCell' = true)
    (h63 : n + m ≤ maxLen) (hbytes : (n + m) * bytes ≤ 140737488355328) (hbase : base ≤ w.heap.size)
    (h : ∀ v' w', w'.ownsRow base e size v' (n + m) (xs ++ news) → w.grownBy w' v.ownBlock → (v'.ownBlock = v.ownBlock ∨ v'.ownBlock = some w.heap.size) → K (a.put o.dst v') w') : o.wp P a w K Q := by
  obtain ⟨v', w', hr, h2, h3, -, h4⟩ := Go.run_append_own_at (P := P) (w := w) base t o.type e i z size bytes ht hi hz hsize hby hzs hsz v n xs hown ad m c news hl hnews h1 h63 hbytes hbase
  unfold Oper.wp execOp
  simp only [ho, resolve, invoke, builtin, Sem.run_bind, Sem.run_pure, Result.andThen_ok, List.map_toArray, List.map_cons, List.map_nil, hs, hx, hr]
  exact h v' w' h2 h3 h4

/-- 'q = append(q, ys)': a younger member put behind. -/
theorem wp_pushQ {o : Oper} {a : Act} {K : Act → World → Prop} {Q : Exit → Act → World → Prop} (w : World) (s x : Operand)
    (ho : o.op = .call { callee := .builtin .append, args := #[s, x], argTypes := #[26, 26] })
    (B L : Nat) (v u : Value) (q : List (List (List Int))) (ys : List (List Int)) (hs : a.eval s = v) (h : QL w B L v q) (hu : RowsL w L w.heap.size u ys) (T : TypeId) (hx : a.eval x = .slice (some ⟨w.heap.size, 0, none⟩) 1 1)
    (hl : q.length < 1000000000) (hB : B ≤ L)
    (hK : ∀ v' w', QL w' B w'.heap.size v' (q ++ [ys]) → Below B w w' → K (a.put o.dst v') w') :
    o.wp Try.prog a (w.alloc (.cells #[u] T)) K Q := by
  obtain ⟨i0, hi0, hz0, hz1, hz2⟩ := info_parts Try.infoRows
  obtain ⟨us, lo, hi, e, hown, h1, h2, hr, hd⟩ := h
  have husl : ∃ c, u = .slice none 0 0 ∨ ∃ g n, u = .slice (some ⟨g, 0, none⟩) n c := by
    obtain ⟨_, _, ho2, _⟩ := hu
    obtain ⟨_, ⟨rfl, _⟩ | ⟨g, cap, cur, rfl, _⟩⟩ := ho2
    · exact ⟨0, .inl rfl⟩
    · exact ⟨cap, .inr ⟨g, _, rfl⟩⟩
  refine wp_append_at _ s x 26 ho B 22 i0 (.slice none 0 0) 1 24 Try.underlying26 hi0 hz0 hz1 hz2 rfl (by decide) v q.length _ hs (hown.alloc _) ⟨w.heap.size, 0, none⟩ 1 1 [u] hx rfl ?c1 ?c2 ?c3 ?c4 ?c5 ?_
  case c1 =>
    intro j z hj
    match j, hj with
    | 0, hj => simp at hj; subst hj; simp [Addr.add]
  case c2 =>
    intro z hz
    simp at hz; subst hz
    obtain ⟨c, rfl | ⟨g, n, rfl⟩⟩ := husl <;> rfl
  case c3 => unfold maxLen; omega
  case c4 => omega
  case c5 => simp; omega
  intro v' w' h' hg hat
  have sz : w.heap.size ≤ w'.heap.size := by have := hg.size; simp only [World.size_alloc] at this; omega
  have out : ∀ k, k < w.heap.size → v.ownBlock ≠ some k → w'.heap[k]? = w.heap[k]? := fun k hk hne =>
    (hg.block k (by simp only [World.size_alloc]; omega) (fun e2 => hne e2.symm)).trans (Below.heap_alloc _ _ _ hk)
  have keepR : ∀ (B' L' : Nat) (z : Value) (zs : List (List Int)), RowsL w B' L' z zs → (∀ k, v.ownBlock = some k → k < B' ∨ L' ≤ k) → RowsL w' B' L' z zs := fun B' L' z zs hz hap => by
    obtain ⟨us', e', ho', a1, a2, ar, ad⟩ := hz
    refine ⟨us', e', ownsRow_of_block ho' (fun k ek => out k (World.ownsRow.lt ho' k ek).2 (fun e3 => ?_)), a1, by omega, fun j hj => ⟨ownsRow_of_block (ar j hj).1 (fun k ek => out k (World.ownsRow.lt (ar j hj).1 k ek).2 (fun e3 => ?_)), (ar j hj).2.1, by have := (ar j hj).2.2; omega⟩, ad⟩
    · have := hap k e3; have := a1 k ek; have := (World.ownsRow.lt ho' k ek).1; omega
    · have := hap k e3; have := (ar j hj).2.1 k ek; have := (World.ownsRow.lt (ar j hj).1 k ek).1; omega
  refine hK v' w' ⟨us ++ [u], fun i => if i = q.length then L else lo i, fun i => if i = q.length then w.heap.size else hi i, by simp [e], ?_, fun k ek => ?_, Nat.le_refl _, fun j hj => ?_, fun i j hij hi' hj => ?_⟩ ?_
  · rw [List.length_append]; exact h'
  · refine ⟨(World.ownsRow.lt h' k ek).2, fun j hj => ?_⟩
    rw [List.length_append] at hj
    simp only [List.length_singleton] at hj
    rcases hat with e1 | e1
    · rw [e1] at ek
      by_cases c : j = q.length
      · simp only [if_pos c]; exact Or.inl (h1 k ek).1
      · simp only [if_neg c]; exact (h1 k ek).2 j (by omega)
    · rw [e1] at ek
      simp only [Option.some.injEq, World.size_alloc] at ek
      by_cases c : j = q.length
      · simp only [if_pos c]; exact Or.inr (by omega)
      · simp only [if_neg c]; exact Or.inr (by have := (hr j (by omega)).2.2.1; omega)
  · rw [List.length_append] at hj
    simp only [List.length_singleton] at hj
    by_cases c : j = q.length
    · subst c
      simp only [if_pos]
      have e1 : (us ++ [u]).getD q.length undef = u := by rw [← e]; simp [List.getD]
      have e2 : (q ++ [ys]).getD q.length [] = ys := by simp [List.getD]
      rw [e1, e2]
      exact ⟨hB, h2, sz, keepR _ _ _ _ hu (fun k ek => Or.inl (h1 k ek).1)⟩
    · simp only [if_neg c]
      have e1 : (us ++ [u]).getD j undef = us.getD j undef := by simp [List.getD, List.getElem?_append_left (show j < us.length by omega)]
      have e2 : (q ++ [ys]).getD j [] = q.getD j [] := by simp [List.getD, List.getElem?_append_left (show j < q.length by omega)]
      rw [e1, e2]
      obtain ⟨r1, r2, r3, r4⟩ := hr j (by omega)
      exact ⟨r1, r2, by omega, keepR _ _ _ _ r4 (fun k ek => (h1 k ek).2 j (by omega))⟩
  · rw [List.length_append] at hi' hj
    simp only [List.length_singleton] at hi' hj
    by_cases c : i = q.length
    · by_cases d : j = q.length
      · exact absurd (c.trans d.symm) hij
      · simp only [if_pos c, if_neg d]; exact Or.inr (hr j (by omega)).2.2.1
    · by_cases d : j = q.length
      · simp only [if_neg c, if_pos d]; exact Or.inl (hr i (by omega)).2.2.1
      · simp only [if_neg c, if_neg d]; exact hd i j hij (by omega) (by omega)
  · exact ((Below.refl _ _).alloc (by omega) _).grown hg (by simp; omega) (fun k hk => (World.ownsRow.lt hown k hk).1)
theorem wpList_pushQ {ops : Array Oper} {rest : List Oper} {o : Oper} {a : Act} {Q : Exit → Act → World → Prop} (w : World) (hgd : o.guard = none) (s x : Operand)
    (ho : o.op = .call { callee := .builtin .append, args := #[s, x], argTypes := #[26, 26] })
    (B L : Nat) (v u : Value) (q : List (List (List Int))) (ys : List (List Int)) (hs : a.eval s = v) (h : QL w B L v q) (hu : RowsL w L w.heap.size u ys) (T : TypeId) (hx : a.eval x = .slice (some ⟨w.heap.size, 0, none⟩) 1 1)
    (hl : q.length < 1000000000) (hB : B ≤ L)
    (hK : ∀ v' w', QL w' B w'.heap.size v' (q ++ [ys]) → Below B w w' → wpList Try.prog ops Q rest (a.put o.dst v') w') :
    wpList Try.prog ops Q (o :: rest) a (w.alloc (.cells #[u] T)) :=
  wpList_plain hgd fun _ hK' => wp_pushQ w s x ho B L v u q ys hs h hu T hx hl hB fun v' w' h2 h3 => hK' _ _ (hK v' w' h2 h3)
end Go.Proofs.Ytkonddifmonkcaa
