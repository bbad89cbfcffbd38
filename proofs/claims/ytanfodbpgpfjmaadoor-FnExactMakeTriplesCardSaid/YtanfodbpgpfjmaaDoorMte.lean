/- MakeTriples: the program's. -/
import Derived.Test.YtanfodbpgpfjmaaDoorMtb
import Derived.Test.YtanfodbpgpfjmaaDoorTor
import Derived.Test.YtanfodbpgpfjmaaDoorMtm
import Derived.Test.YtanfodbpgpfjmaaDoorDlw
namespace Go.Proofs.YtanfodbpgpfjmaaDoor
open Go.RowKit Go.Shelf
set_option linter.unusedVariables false
set_option linter.unusedSimpArgs false

set_option maxHeartbeats 1000000 in
theorem iIndexI (x : Int) (xs : List Int) (w : World) (v : Value) (hv : IntsAt w v xs) :
    Calls Tryd.prog 55 #[v, .int .i64 x] w fun e w' => (∃ z : Int, e = .returned (.int .i64 z) ∧ decide (0 ≤ z) = decide (x ∈ xs)) ∧ w' = w := by
  obtain ⟨a, cap, rfl, hml, hc⟩ := hv.shape
  have HIT : Hid (∀ j, j < xs.length → xs.getD j 0 = x → decide (x ∈ xs) = true) := fun j hj h => decide_eq_true (by rw [← h, List.getD_eq_getElem?_getD, List.getElem?_eq_getElem hj]; exact List.getElem_mem _)
  have MISS : Hid ((∀ k, k < xs.length → xs.getD k 0 ≠ x) → decide (x ∈ xs) = false) := fun h => decide_eq_false fun hm => by
    obtain ⟨k, hk, e⟩ := List.mem_iff_getElem.1 hm
    exact h k hk (by rw [List.getD_eq_getElem?_getD, List.getElem?_eq_getElem hk]; exact e)
  obtain ⟨V, hV⟩ : ∃ V, decide (x ∈ xs) = V := ⟨_, rfl⟩
  obtain ⟨m, hm⟩ : ∃ m, xs.length = m := ⟨_, rfl⟩
  rw [hV, hm] at HIT MISS
  rw [hV]
  rw [hm] at hc hml ⊢
  have HC := Lib.hid hc
  clear hV hv hc hm
  go_enter Tryd.func55, Tryd.ntmps55
  go_wp2
  go_loop [8] (fun i => ∃ j : Nat, j ≤ m ∧ i = .int .i64 j ∧ Hid (∀ k, k < j → xs.getD k 0 ≠ x)) (fun i => m - (intOf i).toNat)
  case atStart => exact ⟨0, by omega, rfl, fun k hk => by omega⟩
  case round =>
    obtain ⟨j, hj, rfl, hN⟩ := hrel
    by_cases c : j < m
    · have g1 : decide (j < m) = true := by simpa using c
      have g1' : decide ((j : Int) < (m : Int)) = true := decide_eq_true (by omega)
      obtain ⟨g, off, rfl, cj⟩ := HC.out j c
      have j0 : (0 : Int) ≤ (j : Int) := by omega
      have j1 : (j : Int) < (m : Int) := by omega
      have w3 := IntWalk.i64_in ((j : Int) + 1) (by omega)
      have HJ := Lib.hid (HIT.out j c)
      obtain ⟨y, hy⟩ : ∃ y, xs.getD j 0 = y := ⟨_, rfl⟩
      rw [hy] at cj HJ
      by_cases e : y = x
      · have VV := Lib.hid (HJ.out e)
        have g2 : (x == x) = true := by simp
        subst e
        clear hy
        go_wp2
        go_ret
        exact ⟨⟨j, rfl, by rw [VV.out]; exact decide_eq_true (by omega)⟩, rfl⟩
      · have N2 : Hid (∀ k, k < j + 1 → xs.getD k 0 ≠ x) := fun k hk => by
          by_cases q : k = j
          · rw [q, hy]; exact e
          · exact hN.out k (by omega)
        have g2 : (x == y) = false := by simp; exact fun h => e h.symm
        have g3 : (y == x) = false := by simp; exact e
        clear hy e
        go_wp2
        go_round
        case rel => exact ⟨j + 1, by omega, by go_num, N2⟩
        case measure => simp [intOf]; omega
    · have g1 : decide (j < m) = false := by simpa using c
      have g1' : decide ((j : Int) < (m : Int)) = false := decide_eq_false (by omega)
      have VV := Lib.hid (MISS.out (fun k hk => hN.out k (by omega)))
      go_wp2
      go_ret
      exact ⟨⟨-1, rfl, by rw [VV.out]; rfl⟩, rfl⟩
theorem iContainsI (x : Int) (xs : List Int) (w : World) (v : Value) (hv : IntsAt w v xs) :
    Calls Tryd.prog 27 #[v, .int .i64 x] w fun e w' => e = .returned (.bool (decide (x ∈ xs))) ∧ w' = w := by
  have H := Lib.hid (iIndexI x xs w v hv)
  obtain ⟨V, hV⟩ : ∃ V, decide (x ∈ xs) = V := ⟨_, rfl⟩
  rw [hV] at H ⊢
  clear hV hv
  go_enter Tryd.func27, Tryd.ntmps27
  go_wp2_with fail
  refine H.out.mono ?_
  rintro e w2 ⟨⟨z, rfl, hz⟩, rfl⟩
  have HZ := Lib.hid hz
  clear hz
  go_wp2
  go_ret
  exact ⟨by rw [← HZ.out]; rfl, rfl⟩

/-- The blocks of a made system. -/
def mtL (v : Int) : List (List Int) := if v.toNat % 6 = 1 then (evenL (v.toNat / 6)).map ptsN else (oddL (v.toNat / 6)).map ptsN
noncomputable def MakeTriples_N (v : Int) : Int := if v ∈ tol 28 then dxN v (mtL v) else 0
noncomputable def MakeTriples_L (v : Int) : List (List Int) := if v ∈ tol 28 then dxL (mtL v) else []
noncomputable def MakeTriples_C (v : Int) : Int := if v ∈ tol 28 then dxC (mtL v) else 2
theorem mt_no {v : Int} (h : ¬ v ∈ tol 28) : MakeTriples_N v = 0 ∧ MakeTriples_L v = [] ∧ MakeTriples_C v = 2 := by
  unfold MakeTriples_N MakeTriples_L MakeTriples_C; rw [if_neg h, if_neg h, if_neg h]; exact ⟨rfl, rfl, rfl⟩
theorem mt_yes {v : Int} (h : v ∈ tol 28) : MakeTriples_N v = dxN v (mtL v) ∧ MakeTriples_L v = dxL (mtL v) ∧ MakeTriples_C v = dxC (mtL v) := by
  unfold MakeTriples_N MakeTriples_L MakeTriples_C; rw [if_pos h, if_pos h, if_pos h]; exact ⟨rfl, rfl, rfl⟩
theorem mt_cases {v : Int} (h : v ∈ tol 28) : (∃ t : Nat, 1 ≤ t ∧ t ≤ 4 ∧ v = ((6 * t + 1 : Nat) : Int)) ∨ (∃ t : Nat, t ≤ 4 ∧ v = ((6 * t + 3 : Nat) : Int)) := by
  rw [tol_all] at h
  simp only [List.mem_cons, List.not_mem_nil, or_false] at h
  rcases h with rfl | rfl | rfl | rfl | rfl | rfl | rfl | rfl | rfl
  · exact .inr ⟨0, by omega, rfl⟩
  · exact .inl ⟨1, by omega, by omega, rfl⟩
  · exact .inr ⟨1, by omega, rfl⟩
  · exact .inl ⟨2, by omega, by omega, rfl⟩
  · exact .inr ⟨2, by omega, rfl⟩
  · exact .inl ⟨3, by omega, by omega, rfl⟩
  · exact .inr ⟨3, by omega, rfl⟩
  · exact .inl ⟨4, by omega, by omega, rfl⟩
  · exact .inr ⟨4, by omega, rfl⟩
theorem mtL_even (t : Nat) : mtL ((6 * t + 1 : Nat) : Int) = (evenL t).map ptsN := by
  unfold mtL; rw [Int.toNat_natCast, if_pos (by omega), show (6 * t + 1) / 6 = t by omega]
theorem mtL_odd (t : Nat) : mtL ((6 * t + 3 : Nat) : Int) = (oddL t).map ptsN := by
  unfold mtL; rw [Int.toNat_natCast, if_neg (by omega), show (6 * t + 3) / 6 = t by omega]
def small32 (L : List Nat) : Bool := L.all (fun x => Nat.blt x 4294967296) && Nat.ble L.length 128
theorem of_small32 {L : List Nat} (h : small32 L = true) : (∀ x ∈ L, x < 4294967296) ∧ L.length ≤ 128 := by
  unfold small32 at h
  rw [Bool.and_eq_true] at h
  exact ⟨fun x hx => by have := List.all_eq_true.1 h.1 x hx; rw [Nat.blt_eq] at this; exact this, Nat.le_of_ble_eq_true h.2⟩
theorem even_s1 : small32 (evenL 1) = true := by kernel_rfl
theorem even_s2 : small32 (evenL 2) = true := by kernel_rfl
theorem even_s3 : small32 (evenL 3) = true := by kernel_rfl
theorem even_s4 : small32 (evenL 4) = true := by kernel_rfl
theorem odd_s0 : small32 (oddL 0) = true := by kernel_rfl
theorem odd_s1 : small32 (oddL 1) = true := by kernel_rfl
theorem odd_s2 : small32 (oddL 2) = true := by kernel_rfl
theorem odd_s3 : small32 (oddL 3) = true := by kernel_rfl
theorem odd_s4 : small32 (oddL 4) = true := by kernel_rfl
theorem even_small {t : Nat} (h1 : 1 ≤ t) (h : t ≤ 4) : small32 (evenL t) = true := by
  have : t = 1 ∨ t = 2 ∨ t = 3 ∨ t = 4 := by omega
  rcases this with rfl | rfl | rfl | rfl
  · exact even_s1
  · exact even_s2
  · exact even_s3
  · exact even_s4
theorem odd_small {t : Nat} (h : t ≤ 4) : small32 (oddL t) = true := by
  have : t = 0 ∨ t = 1 ∨ t = 2 ∨ t = 3 ∨ t = 4 := by omega
  rcases this with rfl | rfl | rfl | rfl | rfl
  · exact odd_s0
  · exact odd_s1
  · exact odd_s2
  · exact odd_s3
  · exact odd_s4

set_option maxRecDepth 100000 in
set_option maxHeartbeats 2000000 in
theorem iMakeTriples (v : Int) (w : World) (ht : Tab w) :
    Calls Tryd.prog 8 #[.int .i64 v] w fun e w' => ∃ z, e = .returned (.tuple #[.agg #[.int .i64 (MakeTriples_N v), z], .int .i64 (MakeTriples_C v)]) ∧ RowsL w' w.heap.size w'.heap.size z (MakeTriples_L v) ∧ Below w.heap.size w w' := by
  obtain ⟨B, hB⟩ : ∃ B, w.heap.size = B := ⟨_, rfl⟩
  have hpos : 0 < B := by rw [← hB]; exact ht.pos
  obtain ⟨w1, hw1⟩ : ∃ w1, w.alloc (.cells #[.int .i64 0, .slice none 0 0] 24) = w1 := ⟨_, rfl⟩
  have z1 : w1.heap.size = B + 1 := by rw [← hw1, World.size_alloc, hB]
  have b1 : Below B w w1 := by rw [← hw1]; exact (Below.refl _ _).alloc (by omega) _
  have R1 : w1.heap[B]? = some (.cells #[.int .i64 0, .slice none 0 0] 24 (0, 0)) := by rw [← hw1, ← hB]; exact heap_alloc_new _ _
  have HO := Lib.hid (iTripleOrders w1)
  have HB := Lib.hid hB
  have BB1 := Lib.hid b1
  have RR1 := Lib.hid R1
  have TB := Lib.hid ht
  rw [z1] at HO
  clear b1 R1 ht
  by_cases hm : v ∈ tol 28
  · obtain ⟨V0, V1, V2⟩ := mt_yes hm
    have MB : Hid (decide (v ∈ tol 28) = true) := decide_eq_true hm
    have TAIL : Hid (∀ (W : World) (Q : Nat) (u : Value) (L : List Nat), Us W Q u L → (∀ x ∈ L, x < 4294967296) ∧ L.length ≤ 128 → L.map ptsN = mtL v → B + 1 ≤ Q → Q ≤ W.heap.size → Below (B + 1) w1 W → Calls Tryd.prog 29 #[.int .i64 v, u] W fun e w' => ∃ z, e = .returned (.tuple #[.agg #[.int .i64 (MakeTriples_N v), z], .int .i64 (MakeTriples_C v)]) ∧ RowsL w' W.heap.size w'.heap.size z (MakeTriples_L v) ∧ Below Q W w') := fun W Q u L hU hL hE hQ hs hb => by
      have H := idesU v W Q u L hU hL.1 (by have := hL.2; omega) (by omega) hs (TB.out.below (BB1.out.trans (hb.mono (by omega))) hpos)
      rw [hE, ← V0, ← V1, ← V2] at H
      exact H
    obtain ⟨qn, hqn⟩ : ∃ q, MakeTriples_N v = q := ⟨_, rfl⟩
    obtain ⟨qc, hqc⟩ : ∃ q, MakeTriples_C v = q := ⟨_, rfl⟩
    obtain ⟨ql, hql⟩ : ∃ q, MakeTriples_L v = q := ⟨_, rfl⟩
    simp only [hqn, hqc, hql] at TAIL ⊢
    clear V0 V1 V2 hqn hqc hql
    rcases mt_cases hm with ⟨t, t1, t4, rfl⟩ | ⟨t, t4, rfl⟩
    · have HE := Lib.hid (fun W => ieven t t1 t4 W)
      have SM := Lib.hid (of_small32 (even_small t1 t4))
      have EL := Lib.hid (mtL_even t).symm
      have d1 : Int.tdiv ((6 * t + 1 : Nat) : Int) 6 = (t : Int) := by
        have : Int.tdiv ((6 * t + 1 : Nat) : Int) 6 = (((6 * t + 1) / 6 : Nat) : Int) := rfl
        rw [this, show (6 * t + 1) / 6 = t by omega]
      have d2 : Int.tmod ((6 * t + 1 : Nat) : Int) 6 = 1 := by
        have : Int.tmod ((6 * t + 1 : Nat) : Int) 6 = (((6 * t + 1) % 6 : Nat) : Int) := rfl
        rw [this, show (6 * t + 1) % 6 = 1 by omega]; rfl
      obtain ⟨V, hV⟩ : ∃ V, 6 * t + 1 = V := ⟨_, rfl⟩
      rw [hV] at d1 d2
      simp only [hV] at TAIL MB EL
      rw [hV]
      have w3 := IntWalk.i64_in (t : Int) (by omega)
      clear hm hV
      go_enter Tryd.func8, Tryd.ntmps8
      go_wp2_with fail
      try rw [hw1]
      refine HO.out.mono ?_
      rintro e w2 ⟨u, rfl, hI, b2⟩
      have HCt := Lib.hid (iContainsI (V : Int) (tol 28) w2 u hI.at)
      rw [MB.out] at HCt
      have B2 := Lib.hid b2
      clear hI b2
      go_wp2_with fail
      refine HCt.out.mono ?_
      rintro e w3' ⟨rfl, ew⟩
      subst ew
      go_wp2_with fail
      refine (HE.out _).mono ?_
      rintro e w4 ⟨u4, rfl, hU, b4⟩
      have s2 : B + 1 ≤ w3'.heap.size := by have := B2.out.size; omega
      have B4 : Hid (Below (B + 1) w1 w4) := B2.out.trans (b4.mono s2)
      have HD := Lib.hid (TAIL.out w4 (B + 1) u4 _ (hU.mono s2) SM.out EL.out (Nat.le_refl _) (by have := b4.size; omega) B4.out)
      have R4 := Lib.hid ((B4.out.block B (by omega)).trans RR1.out)
      have B5 : Hid (Below B w w4) := BB1.out.trans (B4.out.mono (by omega))
      have s4 : Hid (B + 1 ≤ w4.heap.size) := by have := b4.size; unfold Hid; omega
      clear hU b4
      go_wp2_with fail
      refine HD.out.mono ?_
      rintro e w9 ⟨z, rfl, hL, hO⟩
      have RX : w9.heap[B]? = some (.cells #[.int .i64 0, .slice none 0 0] 24 (0, 0)) := (hO.block B (by omega)).trans R4.out
      have BX : Hid (Below B w w9) := B5.out.trans (hO.mono (by omega))
      obtain ⟨ay, ly, cy, rfl⟩ : ∃ a l c, z = .slice a l c := by obtain ⟨a, c, e, -⟩ := hL.at.shape; exact ⟨a, _, c, e⟩
      obtain ⟨d0, d1', f0, f1⟩ := cells2 w9 B _ _ _ RX
      have LX := Lib.hid hL
      have RX := Lib.hid RX
      clear hL hO
      go_wp2
      refine endsD (fn := Tryd.f8) (i := 2) (j := 3) rfl w9 B _ _ RX.out _ _ _ _ ⟨.slice ay ly cy, rfl, ?_, ?_⟩ _ rfl rfl
      · exact (RowsL.off2 LX.out (show B < w4.heap.size by have := s4.out; omega) _ _).mono (by have := HB.out; have := s4.out; omega) (by simp [World.setCell]) (Nat.le_refl _)
      · rw [HB.out]
        exact (BX.out.setCell (p := ⟨B, 0, none⟩) (Nat.le_refl B) _).setCell (p := ⟨B, 1, none⟩) (Nat.le_refl B) _
    · have HE := Lib.hid (fun W => iodd t t4 W)
      have SM := Lib.hid (of_small32 (odd_small t4))
      have EL := Lib.hid (mtL_odd t).symm
      have d1 : Int.tdiv ((6 * t + 3 : Nat) : Int) 6 = (t : Int) := by
        have : Int.tdiv ((6 * t + 3 : Nat) : Int) 6 = (((6 * t + 3) / 6 : Nat) : Int) := rfl
        rw [this, show (6 * t + 3) / 6 = t by omega]
      have d2 : Int.tmod ((6 * t + 3 : Nat) : Int) 6 = 3 := by
        have : Int.tmod ((6 * t + 3 : Nat) : Int) 6 = (((6 * t + 3) % 6 : Nat) : Int) := rfl
        rw [this, show (6 * t + 3) % 6 = 3 by omega]; rfl
      obtain ⟨V, hV⟩ : ∃ V, 6 * t + 3 = V := ⟨_, rfl⟩
      rw [hV] at d1 d2
      simp only [hV] at TAIL MB EL
      rw [hV]
      have w3 := IntWalk.i64_in (t : Int) (by omega)
      clear hm hV
      go_enter Tryd.func8, Tryd.ntmps8
      go_wp2_with fail
      try rw [hw1]
      refine HO.out.mono ?_
      rintro e w2 ⟨u, rfl, hI, b2⟩
      have HCt := Lib.hid (iContainsI (V : Int) (tol 28) w2 u hI.at)
      rw [MB.out] at HCt
      have B2 := Lib.hid b2
      clear hI b2
      go_wp2_with fail
      refine HCt.out.mono ?_
      rintro e w3' ⟨rfl, ew⟩
      subst ew
      go_wp2_with fail
      refine (HE.out _).mono ?_
      rintro e w4 ⟨u4, rfl, hU, b4⟩
      have s2 : B + 1 ≤ w3'.heap.size := by have := B2.out.size; omega
      have B4 : Hid (Below (B + 1) w1 w4) := B2.out.trans (b4.mono s2)
      have HD := Lib.hid (TAIL.out w4 (B + 1) u4 _ (hU.mono s2) SM.out EL.out (Nat.le_refl _) (by have := b4.size; omega) B4.out)
      have R4 := Lib.hid ((B4.out.block B (by omega)).trans RR1.out)
      have B5 : Hid (Below B w w4) := BB1.out.trans (B4.out.mono (by omega))
      have s4 : Hid (B + 1 ≤ w4.heap.size) := by have := b4.size; unfold Hid; omega
      clear hU b4
      go_wp2_with fail
      refine HD.out.mono ?_
      rintro e w9 ⟨z, rfl, hL, hO⟩
      have RX : w9.heap[B]? = some (.cells #[.int .i64 0, .slice none 0 0] 24 (0, 0)) := (hO.block B (by omega)).trans R4.out
      have BX : Hid (Below B w w9) := B5.out.trans (hO.mono (by omega))
      obtain ⟨ay, ly, cy, rfl⟩ : ∃ a l c, z = .slice a l c := by obtain ⟨a, c, e, -⟩ := hL.at.shape; exact ⟨a, _, c, e⟩
      obtain ⟨d0, d1', f0, f1⟩ := cells2 w9 B _ _ _ RX
      have LX := Lib.hid hL
      have RX := Lib.hid RX
      clear hL hO
      go_wp2
      refine endsD (fn := Tryd.f8) (i := 2) (j := 3) rfl w9 B _ _ RX.out _ _ _ _ ⟨.slice ay ly cy, rfl, ?_, ?_⟩ _ rfl rfl
      · exact (RowsL.off2 LX.out (show B < w4.heap.size by have := s4.out; omega) _ _).mono (by have := HB.out; have := s4.out; omega) (by simp [World.setCell]) (Nat.le_refl _)
      · rw [HB.out]
        exact (BX.out.setCell (p := ⟨B, 0, none⟩) (Nat.le_refl B) _).setCell (p := ⟨B, 1, none⟩) (Nat.le_refl B) _
  · obtain ⟨V0, V1, V2⟩ := mt_no hm
    have MB : Hid (decide (v ∈ tol 28) = false) := decide_eq_false hm
    have VV : Hid (MakeTriples_N v = 0 ∧ MakeTriples_L v = [] ∧ MakeTriples_C v = 2) := ⟨V0, V1, V2⟩
    clear V0 V1 V2 hm
    go_enter Tryd.func8, Tryd.ntmps8
    go_wp2_with fail
    try rw [hw1]
    refine HO.out.mono ?_
    rintro e w2 ⟨u, rfl, hI, b2⟩
    have HCt := Lib.hid (iContainsI v (tol 28) w2 u hI.at)
    rw [MB.out] at HCt
    have R2 : w2.heap[B]? = some (.cells #[.int .i64 0, .slice none 0 0] 24 (0, 0)) := (b2.block B (by omega)).trans RR1.out
    have B2 : Hid (Below B w w2) := BB1.out.trans (b2.mono (by omega))
    obtain ⟨d0, d1, f0, f1⟩ := cells2 w2 B _ _ _ R2
    have R2 := Lib.hid R2
    clear hI b2
    go_wp2_with fail
    refine HCt.out.mono ?_
    rintro e w3' ⟨rfl, ew⟩
    have ew := ew.symm
    subst ew
    go_wp2
    refine endsD (fn := Tryd.f8) (i := 2) (j := 3) rfl w2 B _ _ R2.out _ _ _ _ ⟨.slice none 0 0, by rw [VV.out.1, VV.out.2.2]; rfl, ?_, ?_⟩ _ rfl rfl
    · rw [VV.out.2.1]; exact RowsL.nil _ _ _ (Nat.le_refl _)
    · rw [HB.out]
      exact (B2.out.setCell (p := ⟨B, 0, none⟩) (Nat.le_refl B) _).setCell (p := ⟨B, 1, none⟩) (Nat.le_refl B) _

/-! MakeTriples: the model. -/
section
open Go.RowKit Go.Shelf
set_option linter.unusedVariables false
set_option linter.unusedSimpArgs false

def mtOk (M : List (List Int)) (E : List Nat) : Bool := (M.isPerm (E.map ptsN) && M.all (fun r => Nat.beq r.length 3)) && Nat.ble M.length 128
theorem mt_fin {M : List (List Int)} {E : List Nat} (h : mtOk M E = true) (v : Int) :
    dxN v (E.map ptsN) = v ∧ dxL (E.map ptsN) = sortL M ∧ dxC (E.map ptsN) = 0 ∧ M.length ≤ 1000 ∧ ∀ i, i < M.length → (M.getD i []).length ≤ 1048576 := by
  unfold mtOk at h
  rw [Bool.and_eq_true, Bool.and_eq_true] at h
  obtain ⟨⟨hp, ha⟩, hl⟩ := h
  have P := List.isPerm_iff.1 hp
  have L := Nat.le_of_ble_eq_true hl
  have A : ∀ r ∈ M, r.length = 3 := fun r hr => by
    have := List.all_eq_true.1 ha r hr
    exact Nat.eq_of_beq_eq_true this
  have S : sortL M = sortL (E.map ptsN) := sortL_of ((sortL_perm M).trans P) (sortL_ord M)
  have e : anyE (E.map ptsN) = false := anyE_false (fun i hi hc => by
    have hm : (E.map ptsN).getD i [] ∈ E.map ptsN := by rw [List.getD_eq_getElem?_getD, List.getElem?_eq_getElem hi]; exact List.getElem_mem _
    have := A _ (P.mem_iff.2 hm)
    rw [hc] at this; simp at this)
  have n : ¬ 128 < (E.map ptsN).length := by rw [← P.length_eq]; omega
  refine ⟨?_, ?_, ?_, by omega, fun i hi => ?_⟩
  · unfold dxN; rw [e, if_neg n]; rfl
  · unfold dxL; rw [e, if_neg n, S]; rfl
  · unfold dxC; rw [e, if_neg n]; rfl
  · have := A (M.getD i []) (by rw [List.getD_eq_getElem?_getD, List.getElem?_eq_getElem hi]; exact List.getElem_mem _)
    omega
theorem even_k1 : mtOk (skqM 1 2) (evenL 1) = true := by kernel_rfl
theorem even_k2 : mtOk (skqM 2 4) (evenL 2) = true := by kernel_rfl
theorem even_k3 : mtOk (skqM 3 6) (evenL 3) = true := by kernel_rfl
theorem even_k4 : mtOk (skqM 4 8) (evenL 4) = true := by kernel_rfl
theorem odd_k0 : mtOk (boL 0 1) (oddL 0) = true := by kernel_rfl
theorem odd_k1 : mtOk (boL 1 3) (oddL 1) = true := by kernel_rfl
theorem odd_k2 : mtOk (boL 2 5) (oddL 2) = true := by kernel_rfl
theorem odd_k3 : mtOk (boL 3 7) (oddL 3) = true := by kernel_rfl
theorem odd_k4 : mtOk (boL 4 9) (oddL 4) = true := by kernel_rfl
theorem even_ok {t : Nat} (h1 : 1 ≤ t) (h : t ≤ 4) : mtOk (skqM t (2 * t)) (evenL t) = true := by
  have : t = 1 ∨ t = 2 ∨ t = 3 ∨ t = 4 := by omega
  rcases this with rfl | rfl | rfl | rfl
  · exact even_k1
  · exact even_k2
  · exact even_k3
  · exact even_k4
theorem odd_ok {t : Nat} (h : t ≤ 4) : mtOk (boL t (2 * t + 1)) (oddL t) = true := by
  have : t = 0 ∨ t = 1 ∨ t = 2 ∨ t = 3 ∨ t = 4 := by omega
  rcases this with rfl | rfl | rfl | rfl | rfl
  · exact odd_k0
  · exact odd_k1
  · exact odd_k2
  · exact odd_k3
  · exact odd_k4

theorem ends1 {fn : Func} {i : Nat} (hfn : fn.results = #[.cell i 24]) (W : World) (q : Nat) (z0 z1 : Value) (hk : W.heap[q]? = some (.cells #[z0, z1] 24 (0, 0))) (a b : Value) (Φ : Ending → World → Prop)
    (hΦ : Φ (.returned (.agg #[a, b])) ((W.setCell ⟨q, 0, none⟩ a).setCell ⟨q, 1, none⟩ b)) (tmps : Array Value) (t2 : tmps.getD i undef = .pointer (some ⟨q, 0, none⟩)) :
    bodyPost Tryd.prog fn Φ Exit.ret { tmps := tmps, defers := [] } ((W.setCell ⟨q, 0, none⟩ a).setCell ⟨q, 1, none⟩ b) := by
  have R9 := set2_row W q _ _ a b _ hk
  obtain ⟨w9, hw9⟩ : ∃ w9, ((W.setCell ⟨q, 0, none⟩ a).setCell ⟨q, 1, none⟩ b) = w9 := ⟨_, rfl⟩
  rw [hw9] at R9 hΦ ⊢
  exact bodyPost_ret (v := .agg #[a, b]) (results_cell_row hfn _ _ _ 24 #[a, b] _ _ t2 R9 Tryd.underlying24 rfl Tryd.infoDes) rfl hΦ

set_option maxRecDepth 100000 in
set_option maxHeartbeats 2000000 in
theorem s11Even (t : Nat) (t1 : 1 ≤ t) (t4 : t ≤ 4) (w : World) :
    Calls Tryd.prog 26 #[.int .i64 ((6 * t + 1 : Nat) : Int)] w fun e w' => ∃ z, e = .returned (.agg #[.int .i64 ((6 * t + 1 : Nat) : Int), z]) ∧ RowsL w' w.heap.size w'.heap.size z (sortL (skqM t (2 * t))) ∧ Below w.heap.size w w' := by
  obtain ⟨B, hB⟩ : ∃ B, w.heap.size = B := ⟨_, rfl⟩
  obtain ⟨w1, hw1⟩ : ∃ w1, w.alloc (.cells #[.int .i64 0, .slice none 0 0] 24) = w1 := ⟨_, rfl⟩
  have z1 : w1.heap.size = B + 1 := by rw [← hw1, World.size_alloc, hB]
  have b1 : Below B w w1 := by rw [← hw1]; exact (Below.refl _ _).alloc (by omega) _
  have R1 : w1.heap[B]? = some (.cells #[.int .i64 0, .slice none 0 0] 24 (0, 0)) := by rw [← hw1, ← hB]; exact heap_alloc_new _ _
  have HB := Lib.hid hB
  have BB1 := Lib.hid b1
  have RR1 := Lib.hid R1
  clear b1 R1
  obtain ⟨-, -, -, l1, l2⟩ := mt_fin (even_ok t1 t4) 0
  have HE := Lib.hid (fun W => sSkolem t t4 t1 W)
  have HS := Lib.hid (fun W v (h : RowsAt W v (skqM t (2 * t))) => sSort (skqM t (2 * t)) l1 l2 W v h)
  clear l1 l2
  have d1 : Int.tdiv ((6 * t : Nat) : Int) 6 = (t : Int) := by
    have : Int.tdiv ((6 * t : Nat) : Int) 6 = (((6 * t) / 6 : Nat) : Int) := rfl
    rw [this, show (6 * t) / 6 = t by omega]
  have d2 : Int.tmod ((6 * t + 1 : Nat) : Int) 6 = 1 := by
    have : Int.tmod ((6 * t + 1 : Nat) : Int) 6 = (((6 * t + 1) % 6 : Nat) : Int) := rfl
    rw [this, show (6 * t + 1) % 6 = 1 by omega]; rfl
  have d3 : IntKind.i64.wrap (((6 * t + 1 : Nat) : Int) - 1) = ((6 * t : Nat) : Int) := by
    rw [show ((6 * t + 1 : Nat) : Int) - 1 = ((6 * t : Nat) : Int) by omega]; exact IntWalk.i64_in _ (by omega)
  have w3 := IntWalk.i64_in (t : Int) (by omega)
  obtain ⟨M, hM⟩ : ∃ M, (skqM t (2 * t)) = M := ⟨_, rfl⟩
  simp only [hM] at HE HS ⊢
  obtain ⟨V, hV⟩ : ∃ V, 6 * t + 1 = V := ⟨_, rfl⟩
  obtain ⟨U, hU⟩ : ∃ V, 6 * t = V := ⟨_, rfl⟩
  rw [hV] at d2 d3
  rw [hU] at d1 d3
  rw [hV]
  clear hM hV hU
  go_enter Tryd.func26, Tryd.ntmps26
  go_wp2_with fail
  try rw [hw1]
  refine (HE.out _).mono ?_
  rintro e w4 ⟨u4, rfl, hU, b4⟩
  have s4 : B + 1 ≤ w4.heap.size := by have := b4.size; omega
  have R4 := Lib.hid ((b4.block B (by omega)).trans RR1.out)
  have B4 : Hid (Below B w w4) := BB1.out.trans (b4.mono (by omega))
  have HD := Lib.hid (HS.out _ _ hU.at)
  clear hU b4
  go_wp2_with fail
  refine HD.out.mono ?_
  rintro e w9 ⟨z, rfl, hL, hO⟩
  have RX : w9.heap[B]? = some (.cells #[.int .i64 0, .slice none 0 0] 24 (0, 0)) := (hO.block B (by omega)).trans R4.out
  have BX : Hid (Below B w w9) := B4.out.trans (hO.mono (by omega))
  obtain ⟨ay, ly, cy, rfl⟩ : ∃ a l c, z = .slice a l c := by obtain ⟨a, c, e, -⟩ := hL.at.shape; exact ⟨a, _, c, e⟩
  obtain ⟨d0, d1', f0, f1⟩ := cells2 w9 B _ _ _ RX
  have LX := Lib.hid hL
  have RX := Lib.hid RX
  have s5 := Lib.hid s4
  clear hL hO s4
  go_wp2
  refine ends1 (fn := Tryd.f26) (i := 2) rfl w9 B _ _ RX.out _ _ _ ⟨.slice ay ly cy, rfl, ?_, ?_⟩ _ rfl
  · exact (RowsL.off2 LX.out (show B < w4.heap.size by have := s5.out; omega) _ _).mono (by have := HB.out; have := s5.out; omega) (by simp [World.setCell]) (Nat.le_refl _)
  · rw [HB.out]
    exact (BX.out.setCell (p := ⟨B, 0, none⟩) (Nat.le_refl B) _).setCell (p := ⟨B, 1, none⟩) (Nat.le_refl B) _

set_option maxRecDepth 100000 in
set_option maxHeartbeats 2000000 in
theorem s11Odd (t : Nat) (t4 : t ≤ 4) (w : World) :
    Calls Tryd.prog 26 #[.int .i64 ((6 * t + 3 : Nat) : Int)] w fun e w' => ∃ z, e = .returned (.agg #[.int .i64 ((6 * t + 3 : Nat) : Int), z]) ∧ RowsL w' w.heap.size w'.heap.size z (sortL (boL t (2 * t + 1))) ∧ Below w.heap.size w w' := by
  obtain ⟨B, hB⟩ : ∃ B, w.heap.size = B := ⟨_, rfl⟩
  obtain ⟨w1, hw1⟩ : ∃ w1, w.alloc (.cells #[.int .i64 0, .slice none 0 0] 24) = w1 := ⟨_, rfl⟩
  have z1 : w1.heap.size = B + 1 := by rw [← hw1, World.size_alloc, hB]
  have b1 : Below B w w1 := by rw [← hw1]; exact (Below.refl _ _).alloc (by omega) _
  have R1 : w1.heap[B]? = some (.cells #[.int .i64 0, .slice none 0 0] 24 (0, 0)) := by rw [← hw1, ← hB]; exact heap_alloc_new _ _
  have HB := Lib.hid hB
  have BB1 := Lib.hid b1
  have RR1 := Lib.hid R1
  clear b1 R1
  obtain ⟨-, -, -, l1, l2⟩ := mt_fin (odd_ok t4) 0
  have HE := Lib.hid (fun W => sBose t t4 W)
  have HS := Lib.hid (fun W v (h : RowsAt W v (boL t (2 * t + 1))) => sSort (boL t (2 * t + 1)) l1 l2 W v h)
  clear l1 l2
  have d1 : Int.tdiv ((6 * t : Nat) : Int) 6 = (t : Int) := by
    have : Int.tdiv ((6 * t : Nat) : Int) 6 = (((6 * t) / 6 : Nat) : Int) := rfl
    rw [this, show (6 * t) / 6 = t by omega]
  have d2 : Int.tmod ((6 * t + 3 : Nat) : Int) 6 = 3 := by
    have : Int.tmod ((6 * t + 3 : Nat) : Int) 6 = (((6 * t + 3) % 6 : Nat) : Int) := rfl
    rw [this, show (6 * t + 3) % 6 = 3 by omega]; rfl
  have d3 : IntKind.i64.wrap (((6 * t + 3 : Nat) : Int) - 3) = ((6 * t : Nat) : Int) := by
    rw [show ((6 * t + 3 : Nat) : Int) - 3 = ((6 * t : Nat) : Int) by omega]; exact IntWalk.i64_in _ (by omega)
  have w3 := IntWalk.i64_in (t : Int) (by omega)
  obtain ⟨M, hM⟩ : ∃ M, (boL t (2 * t + 1)) = M := ⟨_, rfl⟩
  simp only [hM] at HE HS ⊢
  obtain ⟨V, hV⟩ : ∃ V, 6 * t + 3 = V := ⟨_, rfl⟩
  obtain ⟨U, hU⟩ : ∃ V, 6 * t = V := ⟨_, rfl⟩
  rw [hV] at d2 d3
  rw [hU] at d1 d3
  rw [hV]
  clear hM hV hU
  go_enter Tryd.func26, Tryd.ntmps26
  go_wp2_with fail
  try rw [hw1]
  refine (HE.out _).mono ?_
  rintro e w4 ⟨u4, rfl, hU, b4⟩
  have s4 : B + 1 ≤ w4.heap.size := by have := b4.size; omega
  have R4 := Lib.hid ((b4.block B (by omega)).trans RR1.out)
  have B4 : Hid (Below B w w4) := BB1.out.trans (b4.mono (by omega))
  have HD := Lib.hid (HS.out _ _ hU.at)
  clear hU b4
  go_wp2_with fail
  refine HD.out.mono ?_
  rintro e w9 ⟨z, rfl, hL, hO⟩
  have RX : w9.heap[B]? = some (.cells #[.int .i64 0, .slice none 0 0] 24 (0, 0)) := (hO.block B (by omega)).trans R4.out
  have BX : Hid (Below B w w9) := B4.out.trans (hO.mono (by omega))
  obtain ⟨ay, ly, cy, rfl⟩ : ∃ a l c, z = .slice a l c := by obtain ⟨a, c, e, -⟩ := hL.at.shape; exact ⟨a, _, c, e⟩
  obtain ⟨d0, d1', f0, f1⟩ := cells2 w9 B _ _ _ RX
  have LX := Lib.hid hL
  have RX := Lib.hid RX
  have s5 := Lib.hid s4
  clear hL hO s4
  go_wp2
  refine ends1 (fn := Tryd.f26) (i := 2) rfl w9 B _ _ RX.out _ _ _ ⟨.slice ay ly cy, rfl, ?_, ?_⟩ _ rfl
  · exact (RowsL.off2 LX.out (show B < w4.heap.size by have := s5.out; omega) _ _).mono (by have := HB.out; have := s5.out; omega) (by simp [World.setCell]) (Nat.le_refl _)
  · rw [HB.out]
    exact (BX.out.setCell (p := ⟨B, 0, none⟩) (Nat.le_refl B) _).setCell (p := ⟨B, 1, none⟩) (Nat.le_refl B) _
set_option maxRecDepth 100000 in
set_option maxHeartbeats 2000000 in
theorem sMakeTriples (v : Int) (w : World) :
    Calls Tryd.prog 7 #[.int .i64 v] w fun e w' => ∃ z, e = .returned (.tuple #[.agg #[.int .i64 (MakeTriples_N v), z], .int .i64 (MakeTriples_C v)]) ∧ RowsL w' w.heap.size w'.heap.size z (MakeTriples_L v) ∧ Below w.heap.size w w' := by
  obtain ⟨B, hB⟩ : ∃ B, w.heap.size = B := ⟨_, rfl⟩
  obtain ⟨w1, hw1⟩ : ∃ w1, w.alloc (.cells #[.int .i64 0, .slice none 0 0] 24) = w1 := ⟨_, rfl⟩
  have z1 : w1.heap.size = B + 1 := by rw [← hw1, World.size_alloc, hB]
  have b1 : Below B w w1 := by rw [← hw1]; exact (Below.refl _ _).alloc (by omega) _
  have R1 : w1.heap[B]? = some (.cells #[.int .i64 0, .slice none 0 0] 24 (0, 0)) := by rw [← hw1, ← hB]; exact heap_alloc_new _ _
  have HO := Lib.hid (sTripleOrders w1)
  have HB := Lib.hid hB
  have BB1 := Lib.hid b1
  have RR1 := Lib.hid R1
  have HH := Lib.hid (fun W u (h : IntsAt W u (tol 28)) => shas W u (tol 28) v h)
  rw [z1] at HO
  clear b1 R1
  by_cases hm : v ∈ tol 28
  · obtain ⟨V0, V1, V2⟩ := mt_yes hm
    have MB : Hid (decide (v ∈ tol 28) = true) := decide_eq_true hm
    obtain ⟨M, ML, MC, HM⟩ : ∃ M, MakeTriples_L v = sortL M ∧ (MakeTriples_N v = v ∧ MakeTriples_C v = 0) ∧ ∀ W, Calls Tryd.prog 26 #[.int .i64 v] W fun e w' => ∃ z, e = .returned (.agg #[.int .i64 v, z]) ∧ RowsL w' W.heap.size w'.heap.size z (sortL M) ∧ Below W.heap.size W w' := by
      rcases mt_cases hm with ⟨t, t1, t4, rfl⟩ | ⟨t, t4, rfl⟩
      · obtain ⟨a, b, c, -, -⟩ := mt_fin (even_ok t1 t4) ((6 * t + 1 : Nat) : Int)
        rw [mtL_even] at V0 V1 V2
        exact ⟨_, V1.trans b, ⟨V0.trans a, V2.trans c⟩, fun W => s11Even t t1 t4 W⟩
      · obtain ⟨a, b, c, -, -⟩ := mt_fin (odd_ok t4) ((6 * t + 3 : Nat) : Int)
        rw [mtL_odd] at V0 V1 V2
        exact ⟨_, V1.trans b, ⟨V0.trans a, V2.trans c⟩, fun W => s11Odd t t4 W⟩
    rw [MC.1, MC.2, ML]
    have HM := Lib.hid HM
    unfold Hid at HH
    rw [MB.out] at HH
    have HH := Lib.hid HH
    clear V0 V1 V2 ML MC hm
    go_enter Tryd.func7, Tryd.ntmps7
    go_wp2_with fail
    try rw [hw1]
    refine HO.out.mono ?_
    rintro e w2 ⟨u, rfl, hI, b2⟩
    have HCt := Lib.hid (HH.out w2 u hI.at)
    have B2 := Lib.hid b2
    clear hI b2
    go_wp2_with fail
    refine HCt.out.mono ?_
    rintro e w3' ⟨rfl, ew⟩
    subst ew
    go_wp2_with fail
    refine (HM.out _).mono ?_
    rintro e w9 ⟨z, rfl, hL, hO⟩
    have s2 : B + 1 ≤ w2.heap.size := by have := B2.out.size; omega
    have RX : w9.heap[B]? = some (.cells #[.int .i64 0, .slice none 0 0] 24 (0, 0)) := (hO.block B (by omega)).trans ((B2.out.block B (by omega)).trans RR1.out)
    have BX : Hid (Below B w w9) := (BB1.out.trans (B2.out.mono (by omega))).trans (hO.mono (by omega))
    obtain ⟨ay, ly, cy, rfl⟩ : ∃ a l c, z = .slice a l c := by obtain ⟨a, c, e, -⟩ := hL.at.shape; exact ⟨a, _, c, e⟩
    obtain ⟨d0, d1', f0, f1⟩ := cells2 w9 B _ _ _ RX
    have LX := Lib.hid hL
    have RX := Lib.hid RX
    have s4 := Lib.hid s2
    clear hL hO s2
    go_wp2
    refine endsD (fn := Tryd.f7) (i := 2) (j := 3) rfl w9 B _ _ RX.out _ _ _ _ ⟨.slice ay ly cy, rfl, ?_, ?_⟩ _ rfl rfl
    · exact (RowsL.off2 LX.out (show B < w2.heap.size by have := s4.out; omega) _ _).mono (by have := HB.out; have := s4.out; omega) (by simp [World.setCell]) (Nat.le_refl _)
    · rw [HB.out]
      exact (BX.out.setCell (p := ⟨B, 0, none⟩) (Nat.le_refl B) _).setCell (p := ⟨B, 1, none⟩) (Nat.le_refl B) _
  · obtain ⟨V0, V1, V2⟩ := mt_no hm
    have MB : Hid (decide (v ∈ tol 28) = false) := decide_eq_false hm
    have VV : Hid (MakeTriples_N v = 0 ∧ MakeTriples_L v = [] ∧ MakeTriples_C v = 2) := ⟨V0, V1, V2⟩
    unfold Hid at HH
    rw [MB.out] at HH
    have HH := Lib.hid HH
    clear V0 V1 V2 hm
    go_enter Tryd.func7, Tryd.ntmps7
    go_wp2_with fail
    try rw [hw1]
    refine HO.out.mono ?_
    rintro e w2 ⟨u, rfl, hI, b2⟩
    have HCt := Lib.hid (HH.out w2 u hI.at)
    have R2 : w2.heap[B]? = some (.cells #[.int .i64 0, .slice none 0 0] 24 (0, 0)) := (b2.block B (by omega)).trans RR1.out
    have B2 : Hid (Below B w w2) := BB1.out.trans (b2.mono (by omega))
    obtain ⟨d0, d1, f0, f1⟩ := cells2 w2 B _ _ _ R2
    have R2 := Lib.hid R2
    clear hI b2
    go_wp2_with fail
    refine HCt.out.mono ?_
    rintro e w3' ⟨rfl, ew⟩
    subst ew
    go_wp2
    refine endsD (fn := Tryd.f7) (i := 2) (j := 3) rfl w2 B _ _ R2.out _ _ _ _ ⟨.slice none 0 0, by rw [VV.out.1, VV.out.2.2]; rfl, ?_, ?_⟩ _ rfl rfl
    · rw [VV.out.2.1]; exact RowsL.nil _ _ _ (Nat.le_refl _)
    · rw [HB.out]
      exact (B2.out.setCell (p := ⟨B, 0, none⟩) (Nat.le_refl B) _).setCell (p := ⟨B, 1, none⟩) (Nat.le_refl B) _
end
end Go.Proofs.YtanfodbpgpfjmaaDoor
