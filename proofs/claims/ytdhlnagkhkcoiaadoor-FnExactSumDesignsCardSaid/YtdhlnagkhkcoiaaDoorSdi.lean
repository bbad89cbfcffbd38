/- SumDesigns: the numbers; the program's. -/
import Derived.Test.YtdhlnagkhkcoiaaDoorCct
namespace Go.Proofs.YtdhlnagkhkcoiaaDoor
open Go.RowKit Go.Shelf
set_option linter.unusedVariables false
set_option linter.unusedSimpArgs false

theorem cells2S (W : World) (g : Nat) (z0 z1 : Value) (T : TypeId) (h : W.heap[g]? = some (.cells #[z0, z1] T (0, 0))) : W.cell? ⟨g, 0, none⟩ = some z0 ∧ W.cell? ⟨g, 1, none⟩ = some z1 :=
  ⟨by rw [cell_of_row W g 0 _ _ _ h]; rfl, by rw [cell_of_row W g 1 _ _ _ h]; rfl⟩
noncomputable def sumOk (n : Int) (xs : List (List Int)) (n2 : Int) (ys : List (List Int)) : Bool := desB n xs && desB n2 ys
noncomputable def SumDesigns_N (n : Int) (xs : List (List Int)) (n2 : Int) (ys : List (List Int)) : Int := if sumOk n xs n2 ys = true then (if n = n2 then dxN n (xs ++ ys) else 0) else 0
noncomputable def SumDesigns_L (n : Int) (xs : List (List Int)) (n2 : Int) (ys : List (List Int)) : List (List Int) := if sumOk n xs n2 ys = true then (if n = n2 then dxL (xs ++ ys) else []) else []
noncomputable def SumDesigns_C (n : Int) (xs : List (List Int)) (n2 : Int) (ys : List (List Int)) : Int := if sumOk n xs n2 ys = true then (if n = n2 then dxC (xs ++ ys) else 6) else 1
theorem sum_no {n : Int} {xs : List (List Int)} {n2 : Int} {ys : List (List Int)} (h : sumOk n xs n2 ys = false) : SumDesigns_N n xs n2 ys = 0 ∧ SumDesigns_L n xs n2 ys = [] ∧ SumDesigns_C n xs n2 ys = 1 := by
  unfold SumDesigns_N SumDesigns_L SumDesigns_C; rw [h]; exact ⟨rfl, rfl, rfl⟩
theorem sum_state {n : Int} {xs : List (List Int)} {n2 : Int} {ys : List (List Int)} (h : sumOk n xs n2 ys = true) (h2 : ¬ n = n2) : SumDesigns_N n xs n2 ys = 0 ∧ SumDesigns_L n xs n2 ys = [] ∧ SumDesigns_C n xs n2 ys = 6 := by
  unfold SumDesigns_N SumDesigns_L SumDesigns_C; rw [if_pos h, if_pos h, if_pos h, if_neg h2, if_neg h2, if_neg h2]; exact ⟨rfl, rfl, rfl⟩
theorem sum_ok {n : Int} {xs : List (List Int)} {n2 : Int} {ys : List (List Int)} (h : sumOk n xs n2 ys = true) (h2 : n = n2) : SumDesigns_N n xs n2 ys = dxN n (xs ++ ys) ∧ SumDesigns_L n xs n2 ys = dxL (xs ++ ys) ∧ SumDesigns_C n xs n2 ys = dxC (xs ++ ys) := by
  unfold SumDesigns_N SumDesigns_L SumDesigns_C; rw [if_pos h, if_pos h, if_pos h, if_pos h2, if_pos h2, if_pos h2]; exact ⟨rfl, rfl, rfl⟩
theorem sets_list {n : Int} {xs : List (List Int)} {m : Nat} {S : Nat → Nat} (D : Des n xs) (hm : xs.length = m) (hS : SetsF xs m S) : ((List.range m).map S).map ptsN = xs := by
  apply List.ext_getElem (by simp [hm])
  intro i h1 h2
  simp only [List.getElem_map, List.getElem_range]
  have hi : i < m := by simpa using h1
  have := blk_fls D.2.1 (D.2.2.2 i h2).1.2 (hS i hi).2
  rw [List.getD_eq_getElem?_getD, List.getElem?_eq_getElem h2] at this
  exact this
theorem totSumDesigns (n : Int) (xs : List (List Int)) (n2 : Int) (ys : List (List Int)) : tot (SumDesigns_L n xs n2 ys) ≤ 10000 := by
  unfold SumDesigns_L
  split
  · rename_i h
    split
    · unfold sumOk at h
      simp only [Bool.and_eq_true] at h
      have d1 := of_desB h.1
      have d2 := of_desB h.2
      have a := (dxL_tot (xs ++ ys)).1
      have key : ∀ {n : Int} {zs : List (List Int)}, Des n zs → tot zs ≤ zs.length * 32 := fun {n zs} d => by
        have : ∀ (l : List (List Int)), (∀ r ∈ l, r.length ≤ 32) → tot l ≤ l.length * 32 := fun l => by
          induction l with
          | nil => intro _; simp [tot]
          | cons r l ih =>
            intro h
            have h1 := ih (fun s hs => h s (List.mem_cons_of_mem _ hs))
            have h2 := h r (List.mem_cons_self ..)
            unfold tot at h1 ⊢
            simp only [List.map_cons, List.sum_cons, List.length_cons] at h1 ⊢
            omega
        refine this zs fun r hr => ?_
        obtain ⟨i, hi, rfl⟩ := List.mem_iff_getElem.1 hr
        have hb := (d.2.2.2 i hi).1.2
        have e : zs.getD i [] = zs[i] := by rw [List.getD_eq_getElem?_getD, List.getElem?_eq_getElem hi]; rfl
        rw [e] at hb
        by_cases c : (zs[i]).length = 0
        · omega
        · have ge : ∀ j, j < (zs[i]).length → (j : Int) ≤ (zs[i]).getD j 0 := fun j => by
            induction j with
            | zero => intro hj; exact (hb 0 hj).1
            | succ j ih =>
              intro hj
              have h1 := ih (by omega)
              have h2 := (hb (j + 1) hj).2.2 (by omega)
              rw [Nat.add_sub_cancel] at h2
              omega
          have h1 := ge ((zs[i]).length - 1) (by omega)
          have h2 := (hb ((zs[i]).length - 1) (by omega)).2.1
          have := d.2.1
          omega
      have b1 := key d1
      have b2 := key d2
      have e : tot (xs ++ ys) = tot xs + tot ys := by unfold tot; rw [List.map_append, List.sum_append]
      have := d1.2.2.1
      have := d2.2.2.1
      omega
    · simp [tot]
  · simp [tot]

set_option maxRecDepth 100000 in
set_option maxHeartbeats 4000000 in
theorem iSumDesigns (n : Int) (xs : List (List Int)) (n2 : Int) (ys : List (List Int)) (hx : xs.length ≤ 1048576) (hy : ys.length ≤ 1048576) (w : World) (v u : Value) (hv : RowsAt w v xs) (hu : RowsAt w u ys) (ht : Tab w) :
    Calls Tryd.prog 27 #[.agg #[.int .i64 n, v], .agg #[.int .i64 n2, u]] w fun e w' => ∃ z, e = .returned (.tuple #[.agg #[.int .i64 (SumDesigns_N n xs n2 ys), z], .int .i64 (SumDesigns_C n xs n2 ys)]) ∧ RowsL w' w.heap.size w'.heap.size z (SumDesigns_L n xs n2 ys) ∧ Below w.heap.size w w' := by
  obtain ⟨va, cap, rfl, -⟩ := hv.shape
  obtain ⟨ua, cap2, rfl, -⟩ := hu.shape
  obtain ⟨m, hm⟩ : ∃ m, xs.length = m := ⟨_, rfl⟩
  obtain ⟨m2, hm2⟩ : ∃ m, ys.length = m := ⟨_, rfl⟩
  rw [hm] at hv ⊢
  rw [hm2] at hu ⊢
  obtain ⟨B, hB⟩ : ∃ B, w.heap.size = B := ⟨_, rfl⟩
  have hpos : 0 < B := by rw [← hB]; exact ht.pos
  obtain ⟨w1, hw1⟩ : ∃ w1, w.alloc (.cells #[.int .i64 n, .slice va m cap] 27) = w1 := ⟨_, rfl⟩
  have z1 : w1.heap.size = B + 1 := by rw [← hw1, World.size_alloc, hB]
  have b1 : Below B w w1 := by rw [← hw1]; exact (Below.refl _ _).alloc (by omega) _
  have A1 : w1.heap[B]? = some (.cells #[.int .i64 n, .slice va m cap] 27 (0, 0)) := by rw [← hw1, ← hB]; exact heap_alloc_new _ _
  obtain ⟨w2, hw2⟩ : ∃ w2, w1.alloc (.cells #[.int .i64 n2, .slice ua m2 cap2] 27) = w2 := ⟨_, rfl⟩
  have z2 : w2.heap.size = B + 2 := by rw [← hw2, World.size_alloc, z1]
  have b12 : Below (B + 1) w1 w2 := by rw [← hw2]; exact (Below.refl _ _).alloc (Nat.le_of_eq z1.symm) _
  have A2 : w2.heap[B + 1]? = some (.cells #[.int .i64 n2, .slice ua m2 cap2] 27 (0, 0)) := by rw [← hw2, ← z1]; exact heap_alloc_new _ _
  obtain ⟨w3, hw3⟩ : ∃ w3, w2.alloc (.cells #[.int .i64 0, .slice none 0 0] 27) = w3 := ⟨_, rfl⟩
  have z3 : w3.heap.size = B + 3 := by rw [← hw3, World.size_alloc, z2]
  have b23 : Below (B + 2) w2 w3 := by rw [← hw3]; exact (Below.refl _ _).alloc (Nat.le_of_eq z2.symm) _
  have A3 : w3.heap[B + 2]? = some (.cells #[.int .i64 0, .slice none 0 0] 27 (0, 0)) := by rw [← hw3, ← z2]; exact heap_alloc_new _ _
  have b3 : Below B w w3 := (b1.trans (b12.mono (by omega))).trans (b23.mono (by omega))
  have q1 := (b23.block B (by omega)).trans ((b12.block B (by omega)).trans A1)
  have q2 := (b23.block (B + 1) (by omega)).trans A2
  have HB := Lib.hid hB
  obtain ⟨K, hK⟩ : ∃ K : World → Prop, K = fun W => Below (B + 3) w3 W := ⟨_, rfl⟩
  have K3 : Hid (K w3) := by rw [hK]; exact Below.refl _ _
  have KN : Hid (∀ W W', K W → Below W.heap.size W W' → K W') := fun W W' h bb => by
    rw [hK] at h ⊢
    exact h.trans (bb.mono (by have := h.size; omega))
  have KS : Hid (∀ W W' W'', K W → K W' → Below W.heap.size W' W'' → K W'') := fun W W' W'' h h' bb => by
    rw [hK] at h h' ⊢
    exact h'.trans (bb.mono (by have := h.size; omega))
  have KO : Hid (∀ W, K W → (W.cell? ⟨B, 0, none⟩ = some (.int .i64 n) ∧ W.cell? ⟨B, 1, none⟩ = some (.slice va m cap)) ∧ (W.cell? ⟨B + 1, 0, none⟩ = some (.int .i64 n2) ∧ W.cell? ⟨B + 1, 1, none⟩ = some (.slice ua m2 cap2)) ∧ W.heap[B + 2]? = some (.cells #[.int .i64 0, .slice none 0 0] 27 (0, 0)) ∧ Below B w W ∧ B + 3 ≤ W.heap.size) := fun W h => by
    rw [hK] at h
    exact ⟨cells2S W B _ _ _ ((h.block B (by omega)).trans q1), cells2S W (B + 1) _ _ _ ((h.block (B + 1) (by omega)).trans q2), (h.block (B + 2) (by omega)).trans A3, b3.trans (h.mono (by omega)), by have := h.size; omega⟩
  have KV : Hid (∀ W, K W → RowsAt W (.slice va m cap) xs ∧ RowsAt W (.slice ua m2 cap2) ys ∧ Tab W) := fun W h => by
    rw [hK] at h
    have bb := b3.trans (h.mono (by omega))
    exact ⟨hv.below bb (by omega), hu.below bb (by omega), ht.below bb hpos⟩
  have EN : Hid (∀ (W : World) (cd : Int), K W → SumDesigns_N n xs n2 ys = 0 ∧ SumDesigns_L n xs n2 ys = [] ∧ SumDesigns_C n xs n2 ys = cd → ∀ (tmps : Array Value), tmps.getD 4 undef = .pointer (some ⟨B + 2, 0, none⟩) → tmps.getD 5 undef = .int .i64 cd →
      bodyPost Tryd.prog Tryd.f27 (fun e w' => ∃ z, e = .returned (.tuple #[.agg #[.int .i64 (SumDesigns_N n xs n2 ys), z], .int .i64 (SumDesigns_C n xs n2 ys)]) ∧ RowsL w' w.heap.size w'.heap.size z (SumDesigns_L n xs n2 ys) ∧ Below w.heap.size w w') Exit.ret { tmps := tmps, defers := [] } ((W.setCell ⟨B + 2, 0, none⟩ (.int .i64 0)).setCell ⟨B + 2, 1, none⟩ (.slice none 0 0))) := fun W cd hk hf tmps t2 t3 => by
    obtain ⟨-, -, q2, q3, -⟩ := KO.out W hk
    refine endsD (fn := Tryd.f27) (i := 4) (j := 5) rfl W (B + 2) _ _ q2 _ _ _ _ ⟨.slice none 0 0, by rw [hf.1, hf.2.2], ?_, ?_⟩ tmps t2 t3
    · rw [hf.2.1]; exact RowsL.nil _ _ _ (Nat.le_refl _)
    · rw [HB.out]
      exact (q3.setCell (p := ⟨B + 2, 0, none⟩) (by show B ≤ B + 2; omega) _).setCell (p := ⟨B + 2, 1, none⟩) (by show B ≤ B + 2; omega) _
  have EY : Hid (∀ (W' : World) (J : Nat) (ay : Option Addr) (ly cy : Nat), K W' → B + 3 ≤ J → sumOk n xs n2 ys = true → n = n2 → RowsL W' J W'.heap.size (.slice ay ly cy) (dxL (xs ++ ys)) → ∀ (tmps : Array Value), tmps.getD 4 undef = .pointer (some ⟨B + 2, 0, none⟩) → tmps.getD 5 undef = .int .i64 (dxC (xs ++ ys)) →
      bodyPost Tryd.prog Tryd.f27 (fun e w' => ∃ z, e = .returned (.tuple #[.agg #[.int .i64 (SumDesigns_N n xs n2 ys), z], .int .i64 (SumDesigns_C n xs n2 ys)]) ∧ RowsL w' w.heap.size w'.heap.size z (SumDesigns_L n xs n2 ys) ∧ Below w.heap.size w w') Exit.ret { tmps := tmps, defers := [] } ((W'.setCell ⟨B + 2, 0, none⟩ (.int .i64 (dxN n (xs ++ ys)))).setCell ⟨B + 2, 1, none⟩ (.slice ay ly cy))) := fun W' J ay ly cy hk' hJ ha hp hL tmps t2 t3 => by
    obtain ⟨-, -, q2, q3, -⟩ := KO.out W' hk'
    obtain ⟨v1, v2, v3⟩ := sum_ok ha hp
    refine endsD (fn := Tryd.f27) (i := 4) (j := 5) rfl W' (B + 2) _ _ q2 _ _ _ _ ⟨.slice ay ly cy, by rw [v1, v3], ?_, ?_⟩ tmps t2 t3
    · rw [v2]
      exact (RowsL.off2 hL (show B + 2 < J by omega) _ _).mono (by have := HB.out; omega) (by simp [World.setCell]) (Nat.le_refl _)
    · rw [HB.out]
      exact (q3.setCell (p := ⟨B + 2, 0, none⟩) (by show B ≤ B + 2; omega) _).setCell (p := ⟨B + 2, 1, none⟩) (by show B ≤ B + 2; omega) _
  have HO := Lib.hid (fun W (h : K W) => iInc n xs hx W _ (KV.out W h).1 (KV.out W h).2.2)
  have HO2 := Lib.hid (fun W (h : K W) => iInc n2 ys hy W _ (KV.out W h).2.1 (KV.out W h).2.2)
  have KT := Lib.hid (fun W (h : K W) => (KV.out W h).2.2)
  have KA : Hid (∀ W cs T, K W → K (W.alloc (.cells cs T))) := fun W cs T h => KN.out W _ h ((Below.refl _ _).alloc (Nat.le_refl _) _)
  -- what incidenceOf leaves
  have IO : Hid (∀ (n : Int) (xs : List (List Int)) (m : Nat) (b : Nat) (W : World) (z : Value) (o : Bool), xs.length = m → desB n xs = o → IncOut n xs b W z (desB n xs) → ∃ p sa sl sc, z = .agg #[.int .i64 p, .slice sa sl sc] ∧ (o = true → p = n ∧ ∃ g S, sa = some ⟨g, 0, none⟩ ∧ sl = m ∧ sc = m ∧ Ub W g m S ∧ SetsF xs m S)) := fun n xs m b W z o hl ho h => by
    subst hl
    rw [ho] at h
    cases o with
    | false => exact ⟨0, none, 0, 0, h.1 rfl, fun h => by cases h⟩
    | true =>
      obtain ⟨g, S, e, -, h1, h2⟩ := h.2 rfl
      exact ⟨n, _, _, _, e, fun _ => ⟨rfl, g, S, rfl, rfl, rfl, h1, h2⟩⟩
  have IO1 := Lib.hid (fun b W z => IO.out n xs m b W z (desB n xs) hm rfl)
  have IO2 := Lib.hid (fun b W z => IO.out n2 ys m2 b W z (desB n2 ys) hm2 rfl)
  have DD1 : Hid (desB n xs = true → Des n xs ∧ m ≤ 128) := fun h => ⟨of_desB h, by have := (of_desB h).2.2.1; omega⟩
  have DD2 : Hid (desB n2 ys = true → Des n2 ys ∧ m2 ≤ 128) := fun h => ⟨of_desB h, by have := (of_desB h).2.2.1; omega⟩
  have VN : Hid (sumOk n xs n2 ys = false → SumDesigns_N n xs n2 ys = 0 ∧ SumDesigns_L n xs n2 ys = [] ∧ SumDesigns_C n xs n2 ys = 1) := sum_no
  have VS : Hid (sumOk n xs n2 ys = true → ¬ n = n2 → SumDesigns_N n xs n2 ys = 0 ∧ SumDesigns_L n xs n2 ys = [] ∧ SumDesigns_C n xs n2 ys = 6) := sum_state
  have SO : Hid (sumOk n xs n2 ys = (desB n xs && desB n2 ys)) := rfl
  obtain ⟨o1, ho1⟩ : ∃ o, desB n xs = o := ⟨_, rfl⟩
  obtain ⟨o2, ho2⟩ : ∃ o, desB n2 ys = o := ⟨_, rfl⟩
  simp only [ho1] at HO IO1 DD1 SO
  simp only [ho2] at HO2 IO2 DD2 SO
  have HM := Lib.hid hm
  have HM2 := Lib.hid hm2
  obtain ⟨⟨c0, c1⟩, ⟨c2, c3⟩, -⟩ := KO.out _ K3.out
  clear hv hu hK A1 b1 A2 b12 b23 b3 A3 q1 q2 ht ho1 ho2 hm hm2 z3 IO
  go_enter Tryd.func27, Tryd.ntmps27
  go_wp2_with fail
  try rw [hw1]
  try rw [z1]
  try rw [hw2]
  try rw [z2]
  try rw [hw3]
  refine (HO.out _ K3.out).mono ?_
  rintro e w4 ⟨z, rfl, hz, b4⟩
  obtain ⟨p1, sa1, sl1, sc1, rfl, h1⟩ := IO1.out _ _ _ hz
  have K4 := Lib.hid (KN.out _ _ K3.out b4)
  obtain ⟨w5, hw5⟩ : ∃ w5, w4.alloc (.cells #[.int .i64 p1, .slice sa1 sl1 sc1] 53) = w5 := ⟨_, rfl⟩
  have b45 : Below w4.heap.size w4 w5 := by rw [← hw5]; exact (Below.refl _ _).alloc (Nat.le_refl _) _
  have K5 : Hid (K w5) := KN.out _ _ K4.out b45
  have N5 : w5.heap[w4.heap.size]? = some (.cells #[.int .i64 p1, .slice sa1 sl1 sc1] 53 (0, 0)) := by rw [← hw5]; exact heap_alloc_new _ _
  obtain ⟨J1, hJ1⟩ : ∃ J, w4.heap.size = J := ⟨_, rfl⟩
  rw [hJ1] at N5 b45
  have H1 : Hid (o1 = true → p1 = n ∧ ∃ g S, sa1 = some ⟨g, 0, none⟩ ∧ sl1 = m ∧ sc1 = m ∧ Ub w5 g m S ∧ SetsF xs m S) := fun ho => by
    obtain ⟨q0, g, S, q1, q2, q3, q4, q5⟩ := h1 ho
    exact ⟨q0, g, S, q1, q2, q3, q4.below b45 (by rw [← hJ1]; exact q4.lt), q5⟩
  have J1g : B + 3 ≤ J1 := by have := (KO.out _ K4.out).2.2.2.2; omega
  have s5 : J1 < w5.heap.size := (Array.getElem?_eq_some_iff.1 N5).1
  have NN5 := Lib.hid N5
  obtain ⟨-, ⟨c2', c3'⟩, -⟩ := KO.out _ K5.out
  clear h1 hz b4 b45 N5 c0 c1 c2 c3
  go_wp2_with fail
  try rw [hw5]
  refine (HO2.out _ K5.out).mono ?_
  rintro e w6 ⟨z, rfl, hz, b6⟩
  obtain ⟨p2, sa2, sl2, sc2, rfl, h2⟩ := IO2.out _ _ _ hz
  have K6 := Lib.hid (KN.out _ _ K5.out b6)
  have N6 := (b6.block J1 s5).trans NN5.out
  obtain ⟨w7, hw7⟩ : ∃ w7, w6.alloc (.cells #[.int .i64 p2, .slice sa2 sl2 sc2] 53) = w7 := ⟨_, rfl⟩
  have b67 : Below w6.heap.size w6 w7 := by rw [← hw7]; exact (Below.refl _ _).alloc (Nat.le_refl _) _
  have K7 : Hid (K w7) := KN.out _ _ K6.out b67
  have N7 : w7.heap[w6.heap.size]? = some (.cells #[.int .i64 p2, .slice sa2 sl2 sc2] 53 (0, 0)) := by rw [← hw7]; exact heap_alloc_new _ _
  have N7' := (b67.block J1 (by have := b6.size; omega)).trans N6
  have b57 : Below w5.heap.size w5 w7 := b6.trans (b67.mono b6.size)
  obtain ⟨J2, hJ2⟩ : ∃ J, w6.heap.size = J := ⟨_, rfl⟩
  have J12 : J1 < J2 := by have := b6.size; omega
  rw [hJ2] at N7 b67
  have H1 : Hid (o1 = true → p1 = n ∧ ∃ g S, sa1 = some ⟨g, 0, none⟩ ∧ sl1 = m ∧ sc1 = m ∧ Ub w7 g m S ∧ SetsF xs m S) := fun ho => by
    obtain ⟨q0, g, S, q1, q2, q3, q4, q5⟩ := H1.out ho
    exact ⟨q0, g, S, q1, q2, q3, q4.below b57 q4.lt, q5⟩
  have H2 : Hid (o2 = true → p2 = n2 ∧ ∃ g S, sa2 = some ⟨g, 0, none⟩ ∧ sl2 = m2 ∧ sc2 = m2 ∧ Ub w7 g m2 S ∧ SetsF ys m2 S) := fun ho => by
    obtain ⟨q0, g, S, q1, q2, q3, q4, q5⟩ := h2 ho
    exact ⟨q0, g, S, q1, q2, q3, q4.below b67 (by rw [← hJ2]; exact q4.lt), q5⟩
  obtain ⟨e0, e1⟩ := cells2S w7 J1 _ _ _ N7'
  obtain ⟨e2, e3⟩ := cells2S w7 J2 _ _ _ N7
  have NA := Lib.hid N7'
  have NB := Lib.hid N7
  obtain ⟨-, -, r7, -, s7⟩ := KO.out _ K7.out
  obtain ⟨d0, d1, f0, f1⟩ := cells2 _ (B + 2) _ _ _ r7
  have J2l : J2 < w7.heap.size := (Array.getElem?_eq_some_iff.1 N7).1
  clear h2 hz b6 b67 b57 N6 N7 N7' c2' c3' hw5 hJ1 r7
  cases o1 with
  | false =>
    have V := Lib.hid (VN.out (by rw [SO.out]; rfl))
    go_wp2
    try rw [hw7]
    exact EN.out _ 1 K7.out V.out _ rfl rfl
  | true =>
    cases o2 with
    | false =>
      have V := Lib.hid (VN.out (by rw [SO.out]; rfl))
      go_wp2
      try rw [hw7]
      exact EN.out _ 1 K7.out V.out _ rfl rfl
    | true =>
      have OK := Lib.hid (show sumOk n xs n2 ys = true by rw [SO.out]; rfl)
      obtain ⟨rfl, ga, Sa, rfl, rfl, rfl, UA, FA⟩ := H1.out rfl
      obtain ⟨rfl, gb, Sb, rfl, rfl, rfl, UB, FB⟩ := H2.out rfl
      by_cases en : p1 = p2
      · have EQ := Lib.hid en
        have t1 : (p1 != p2) = false := by simpa using en
        obtain ⟨D1, M1⟩ := DD1.out rfl
        obtain ⟨D2, M2⟩ := DD2.out rfl
        have LA := sets_list D1 HM.out FA
        have LB := sets_list D2 HM2.out FB
        have LAB : Hid (((List.range sc1).map Sa ++ (List.range sc2).map Sb).map ptsN = xs ++ ys) := by unfold Hid; rw [List.map_append, LA, LB]
        have LX : Hid (∀ x ∈ (List.range sc1).map Sa ++ (List.range sc2).map Sb, x < 4294967296) := fun x hx => by
          rcases List.mem_append.1 hx with h | h
          · obtain ⟨i, hi, rfl⟩ := List.mem_map.1 h; exact (FA i (List.mem_range.1 hi)).1
          · obtain ⟨i, hi, rfl⟩ := List.mem_map.1 h; exact (FB i (List.mem_range.1 hi)).1
        have LL : Hid (((List.range sc1).map Sa ++ (List.range sc2).map Sb).length ≤ 1048576) := by unfold Hid; simp; omega
        have UAH := Lib.hid UA
        have UBH := Lib.hid UB
        have HC := Lib.hid (fun W gc (h : Below w7.heap.size w7 W) (x0 : W.cell? ⟨gc, 0, none⟩ = some (.slice (some ⟨ga, 0, none⟩) sc1 sc1)) (x1 : W.cell? ⟨gc, 1, none⟩ = some (.slice (some ⟨gb, 0, none⟩) sc2 sc2)) => iConcat ga sc1 gb sc2 gc Sa Sb M1 M2 W (UAH.out.below h UAH.out.lt) (UBH.out.below h UBH.out.lt) x0 x1)
        obtain ⟨LS, hLS⟩ : ∃ LS, (List.range sc1).map Sa ++ (List.range sc2).map Sb = LS := ⟨_, rfl⟩
        simp only [hLS] at LAB LX LL HC
        have HDS := Lib.hid (fun W Q v (hV : Us W Q v LS) (hQ : 0 < Q) (hQs : Q ≤ W.heap.size) (t : Tab W) => by
          have := idesU p1 W Q v LS hV LX.out LL.out hQ hQs t
          rwa [LAB.out] at this)
        have DS : Hid (∀ W, Below w7.heap.size w7 W → W.cell? ⟨J1, 0, none⟩ = some (.int .i64 p1) ∧ W.cell? ⟨J1, 1, none⟩ = some (.slice (some ⟨ga, 0, none⟩) sc1 sc1) ∧ W.cell? ⟨J2, 1, none⟩ = some (.slice (some ⟨gb, 0, none⟩) sc2 sc2)) := fun W h => by
          obtain ⟨x0, x1⟩ := cells2S W J1 _ _ _ ((h.block J1 (by omega)).trans NA.out)
          obtain ⟨x2, x3⟩ := cells2S W J2 _ _ _ ((h.block J2 J2l).trans NB.out)
          exact ⟨x0, x1, x3⟩
        have XD : Hid (Below w7.heap.size w7 w7.drew) := (Below.refl _ _).drew
        have KQ : Hid (∀ W W' W'', K W → K W' → Below W.heap.size W' W'' → K W'') := fun W W' W'' h h' bb => KS.out _ _ _ h h' bb
        have FAR : Hid (∀ W, Below w7.heap.size w7 W → ∀ a b, ((W.setCell ⟨B + 2, 0, none⟩ a).setCell ⟨B + 2, 1, none⟩ b).cell? ⟨J1, 0, none⟩ = some (.int .i64 p1) ∧ ((W.setCell ⟨B + 2, 0, none⟩ a).setCell ⟨B + 2, 1, none⟩ b).cell? ⟨J1, 1, none⟩ = some (.slice (some ⟨ga, 0, none⟩) sc1 sc1) ∧ ((W.setCell ⟨B + 2, 0, none⟩ a).setCell ⟨B + 2, 1, none⟩ b).cell? ⟨J2, 1, none⟩ = some (.slice (some ⟨gb, 0, none⟩) sc2 sc2)) := fun W h a b => by
          have hb : ∀ k, k ≠ B + 2 → ((W.setCell ⟨B + 2, 0, none⟩ a).setCell ⟨B + 2, 1, none⟩ b).heap[k]? = W.heap[k]? := fun k hk => by rw [Below.heap_setCell _ _ _ k hk, Below.heap_setCell _ _ _ k hk]
          obtain ⟨x0, x1⟩ := cells2S _ J1 _ _ _ ((hb J1 (by omega)).trans ((h.block J1 (by omega)).trans NA.out))
          obtain ⟨x2, x3⟩ := cells2S _ J2 _ _ _ ((hb J2 (by omega)).trans ((h.block J2 J2l).trans NB.out))
          exact ⟨x0, x1, x3⟩
        replace en := Lib.hid en
        clear LA LB UA UB FA FB D1 D2 hLS f0 f1 d0 d1
        go_wp2
        try rw [hw7]
        refine wp_region_held_drew (S := fun w' => w'.cell? ⟨J1, 0, none⟩ = some (.int .i64 p1) ∧ w'.cell? ⟨J1, 1, none⟩ = some (.slice (some ⟨ga, 0, none⟩) sc1 sc1) ∧ w'.cell? ⟨J2, 1, none⟩ = some (.slice (some ⟨gb, 0, none⟩) sc2 sc2)) (by kernel_rfl) (DS.out _ XD.out) (fun hHeld => ?_)
        refine wpAnyH_take (i := 0) (oi := { dst := some 33, op := Op.fieldAddr 53 (Operand.tmp 6) 0, type := 0, pos := "l10_designs.go:361", after := #[], guard := none }) (v := ?_) rfl (by kernel_rfl) (by kernel_rfl) (by kernel_rfl) (fun _ _ _ h => h) (Or.inl ⟨by rfl, ?_⟩) (by assumption) ?_
        rotate_left
        · intro w hSw; (try dsimp only at hSw); go_simp
          try with_reducible rfl
        simp only [Act.put, List.setIfInBounds_toArray, List.set_cons_zero, List.set_cons_succ]
        refine wpAnyH_take (i := 1) (oi := { dst := some 34, op := Op.load 2 (Operand.tmp 33), type := 2, pos := "l10_designs.go:361", after := #[{ on := 0, ground := Ground.data }], guard := none }) (v := ?_) rfl (by kernel_rfl) (by kernel_rfl) (by kernel_rfl) (fun _ _ _ h => h) (Or.inl ⟨by rfl, ?_⟩) (by assumption) ?_
        rotate_left
        · intro w hSw; (try dsimp only at hSw); go_simp
          try with_reducible rfl
        simp only [Act.put, List.setIfInBounds_toArray, List.set_cons_zero, List.set_cons_succ]
        refine wpAnyH_take (i := 2) (oi := { dst := some 35, op := Op.fieldAddr 53 (Operand.tmp 6) 1, type := 0, pos := "l10_designs.go:361", after := #[], guard := none }) (v := ?_) rfl (by kernel_rfl) (by kernel_rfl) (by kernel_rfl) (fun _ _ _ h => h) (Or.inl ⟨by rfl, ?_⟩) (by assumption) ?_
        rotate_left
        · intro w hSw; (try dsimp only at hSw); go_simp
          try with_reducible rfl
        simp only [Act.put, List.setIfInBounds_toArray, List.set_cons_zero, List.set_cons_succ]
        refine wpAnyH_take (i := 3) (oi := { dst := some 36, op := Op.load 51 (Operand.tmp 35), type := 51, pos := "l10_designs.go:361", after := #[{ on := 2, ground := Ground.data }], guard := none }) (v := ?_) rfl (by kernel_rfl) (by kernel_rfl) (by kernel_rfl) (fun _ _ _ h => h) (Or.inl ⟨by rfl, ?_⟩) (by assumption) ?_
        rotate_left
        · intro w hSw; (try dsimp only at hSw); go_simp
          try with_reducible rfl
        simp only [Act.put, List.setIfInBounds_toArray, List.set_cons_zero, List.set_cons_succ]
        refine wpAnyH_take (i := 4) (oi := { dst := some 37, op := Op.fieldAddr 53 (Operand.tmp 8) 1, type := 0, pos := "l10_designs.go:361", after := #[], guard := none }) (v := ?_) rfl (by kernel_rfl) (by kernel_rfl) (by kernel_rfl) (fun _ _ _ h => h) (Or.inl ⟨by rfl, ?_⟩) (by assumption) ?_
        rotate_left
        · intro w hSw; (try dsimp only at hSw); go_simp
          try with_reducible rfl
        simp only [Act.put, List.setIfInBounds_toArray, List.set_cons_zero, List.set_cons_succ]
        refine wpAnyH_take (i := 5) (oi := { dst := some 38, op := Op.load 51 (Operand.tmp 37), type := 51, pos := "l10_designs.go:361", after := #[{ on := 4, ground := Ground.data }], guard := none }) (v := ?_) rfl (by kernel_rfl) (by kernel_rfl) (by kernel_rfl) (fun _ _ _ h => h) (Or.inl ⟨by rfl, ?_⟩) (by assumption) ?_
        rotate_left
        · intro w hSw; (try dsimp only at hSw); go_simp
          try with_reducible rfl
        simp only [Act.put, List.setIfInBounds_toArray, List.set_cons_zero, List.set_cons_succ]
        refine wpAnyH_ready (rs := [6]) (by kernel_rfl) (by simp) ?_
        refine AllReadyH.cons rfl (fun K' hK' => ?_) AllReadyH.nil
        go_simp
        obtain ⟨w8, hw8⟩ : ∃ w8, (w7.alloc (.cells #[.slice (some ⟨ga, 0, none⟩) sc1 sc1, .slice (some ⟨gb, 0, none⟩) sc2 sc2] 51)).drew = w8 := ⟨_, rfl⟩
        have b78 : Below w7.heap.size w7 w8 := by rw [← hw8]; exact ((Below.refl _ _).alloc (Nat.le_refl _) _).drew
        have N8 : w8.heap[w7.heap.size]? = some (.cells #[.slice (some ⟨ga, 0, none⟩) sc1 sc1, .slice (some ⟨gb, 0, none⟩) sc2 sc2] 51 (0, 0)) := by rw [← hw8]; exact heap_alloc_new w7 _
        obtain ⟨x0, x1⟩ := cells2S w8 _ _ _ _ N8
        have B8 := Lib.hid b78
        have HC8 := Lib.hid (HC.out w8 _ b78 x0 x1)
        have K8 := Lib.hid (KN.out _ _ K7.out b78)
        have s8 : w7.heap.size ≤ w8.heap.size := b78.size
        clear N8 x0 x1 b78
        try rw [hw8]
        refine hK'.out _ _ (DS.out _ B8.out) (fun hHeld => ?_)
        clear hK' K'
        refine wpAnyH_ready (rs := [7]) (by kernel_rfl) (by simp) ?_
        refine AllReadyH.cons rfl (fun K' hK' => ?_) AllReadyH.nil
        go_simp
        go_wp2_with fail
        refine HC8.out.mono ?_
        rintro e w9 ⟨v9, rfl, U9, b9⟩
        have B9 : Hid (Below w7.heap.size w7 w9) := B8.out.trans (b9.mono s8)
        have K9 := Lib.hid (KN.out _ _ K8.out b9)
        have s9 : w8.heap.size ≤ w9.heap.size := b9.size
        have HDS9 := Lib.hid (HDS.out w9 w8.heap.size v9 U9 (by omega) s9 (KT.out _ K9.out))
        obtain ⟨a9, l9, c9, rfl⟩ : ∃ a l c, v9 = .slice a l c := by
          rcases U9.uc with ⟨rfl, _⟩ | ⟨g, cp, rfl, _⟩
          · exact ⟨_, _, _, rfl⟩
          · exact ⟨_, _, _, rfl⟩
        clear U9 b9
        refine hK'.out _ _ (DS.out _ B9.out) (fun hHeld => ?_)
        clear hK' K'
        refine wpAnyH_ready (rs := [8]) (by kernel_rfl) (by simp) ?_
        refine AllReadyH.cons rfl (fun K' hK' => ?_) AllReadyH.nil
        go_simp
        go_wp2_with fail
        refine HDS9.out.mono ?_
        rintro e wa ⟨z, rfl, hL, ba⟩
        obtain ⟨ay, ly, cy, rfl⟩ : ∃ a l c, z = .slice a l c := by obtain ⟨a, c, e, -⟩ := hL.at.shape; exact ⟨a, _, c, e⟩
        have LX := Lib.hid hL
        have Ka : Hid (K wa) := KQ.out _ _ _ K8.out K9.out ba
        have Ba : Hid (Below w7.heap.size w7 wa) := B9.out.trans (ba.mono s8)
        obtain ⟨-, -, ra, -, sa⟩ := KO.out _ Ka.out
        obtain ⟨d0, d1, f0, f1⟩ := cells2 _ (B + 2) _ _ _ ra
        have RA := Lib.hid ra
        clear hL ba ra
        refine hK'.out _ _ (DS.out _ Ba.out) (fun hHeld => ?_)
        clear hK' K'
        refine wpAnyH_take (i := 9) (oi := { dst := some 42, op := Op.extract (Operand.tmp 41) 0, type := 27, pos := "l10_designs.go:361", after := #[{ on := 8, ground := Ground.data }], guard := none }) (v := ?_) rfl (by kernel_rfl) (by kernel_rfl) (by kernel_rfl) (fun _ _ _ h => h) (Or.inl ⟨by rfl, ?_⟩) (by assumption) ?_
        rotate_left
        · intro w hSw; (try dsimp only at hSw); go_simp
          try with_reducible rfl
        simp only [Act.put, List.setIfInBounds_toArray, List.set_cons_zero, List.set_cons_succ]
        refine wpAnyH_take (i := 10) (oi := { dst := some 43, op := Op.extract (Operand.tmp 41) 1, type := 2, pos := "l10_designs.go:361", after := #[{ on := 8, ground := Ground.data }], guard := none }) (v := ?_) rfl (by kernel_rfl) (by kernel_rfl) (by kernel_rfl) (fun _ _ _ h => h) (Or.inl ⟨by rfl, ?_⟩) (by assumption) ?_
        rotate_left
        · intro w hSw; (try dsimp only at hSw); go_simp
          try with_reducible rfl
        simp only [Act.put, List.setIfInBounds_toArray, List.set_cons_zero, List.set_cons_succ]
        refine wpAnyH_ready (rs := [11]) (by kernel_rfl) (by simp) ?_
        refine AllReadyH.cons rfl (fun K' hK' => ?_) AllReadyH.nil
        go_simp
        refine hK'.out _ _ (FAR.out wa Ba.out _ _) (fun hHeld => ?_)
        clear hK' K'
        refine wpAnyH_take (i := 12) (oi := { dst := some 5, op := Op.assign (Operand.tmp 43), type := 2, pos := "l10_designs.go:361", after := #[{ on := 10, ground := Ground.data }, { on := 11, ground := Ground.chain }, { on := 0, ground := Ground.phase }, { on := 1, ground := Ground.phase }, { on := 2, ground := Ground.phase }, { on := 3, ground := Ground.phase }, { on := 4, ground := Ground.phase }, { on := 5, ground := Ground.phase }, { on := 6, ground := Ground.phase }, { on := 7, ground := Ground.phase }, { on := 8, ground := Ground.phase }, { on := 9, ground := Ground.phase }, { on := 10, ground := Ground.phase }, { on := 11, ground := Ground.phase }], guard := none }) (v := ?_) rfl (by kernel_rfl) (by kernel_rfl) (by kernel_rfl) (fun _ _ _ h => h) (Or.inl ⟨by rfl, ?_⟩) (by assumption) ?_
        rotate_left
        · intro w hSw; (try dsimp only at hSw); go_simp
          try with_reducible rfl
        simp only [Act.put, List.setIfInBounds_toArray, List.set_cons_zero, List.set_cons_succ]
        refine wpAnyH_done (by kernel_rfl) ?_ _
        clear hHeld
        go_wp2
        exact EY.out wa w9.heap.size ay ly cy Ka.out (by have := s9; have := s8; omega) OK.out EQ.out LX.out _ rfl rfl
      · have t1 : (p1 != p2) = true := by simpa using en
        have V := Lib.hid (VS.out OK.out en)
        replace en := Lib.hid en
        go_wp2
        try rw [hw7]
        exact EN.out _ 6 K7.out V.out _ rfl rfl
end Go.Proofs.YtdhlnagkhkcoiaaDoor
