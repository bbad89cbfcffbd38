/- Derived and residual designs: the model's pieces. -/
import Derived.Test.YtanfodbpgpfjmaaDoorDpi
import Derived.Test.YtanfodbpgpfjmaaDoorDmk
import Derived.Test.YtanfodbpgpfjmaaDoorCom
namespace Go.Proofs.YtanfodbpgpfjmaaDoor
open Go.RowKit Go.Shelf
set_option linter.unusedVariables false
set_option linter.unusedSimpArgs false

set_option maxRecDepth 100000 in
set_option maxHeartbeats 1000000 in
theorem sPlaces (xs ys : List Int) (hl : ys.length ≤ 32) (w : World) (v u : Value) (hv : IntsAt w v xs) (hu : IntsAt w u ys) :
    Calls Tryd.prog 69 #[v, u] w fun e w' => ∃ r, e = .returned r ∧ Ints w' w.heap.size r (fls ys.length (fun i => decide (ys.getD i 0 ∈ xs))) ∧ Below w.heap.size w w' := by
  obtain ⟨a, cap, rfl, hml, hc⟩ := hu.shape
  obtain ⟨m, hm⟩ : ∃ m, ys.length = m := ⟨_, rfl⟩
  rw [hm] at hl hc hml ⊢
  obtain ⟨B, hB⟩ : ∃ B, w.heap.size = B := ⟨_, rfl⟩
  have HC := Lib.hid (fun W (h : Below B w W) j (hj : j < m) => by
    obtain ⟨g, off, e1, e2⟩ := hc j hj
    exact (⟨g, off, e1, (h.cell (p := ⟨g, off + j, none⟩) (by rw [← hB]; exact World.block_lt_of_cell? w _ e2)).trans e2⟩ : ∃ g off, a = some ⟨g, off, none⟩ ∧ W.cell? ⟨g, off + j, none⟩ = some (.int .i64 (ys.getD j 0))))
  have HH := Lib.hid (fun z W (h : Below B w W) => shas W v xs z (hv.below h (Nat.le_of_eq hB)))
  have RS : Hid (∀ j, fls (j + 1) (fun i => decide (ys.getD i 0 ∈ xs)) = fls j (fun i => decide (ys.getD i 0 ∈ xs)) ++ if decide (ys.getD j 0 ∈ xs) then [(j : Int)] else []) := fun j => fls_succ j _
  have RL : Hid (∀ j, (fls j (fun i => decide (ys.getD i 0 ∈ xs))).length ≤ j) := fun j => fls_len _ _
  obtain ⟨w1, hw1⟩ : ∃ w1, w.alloc (.cells #[] 2) = w1 := ⟨_, rfl⟩
  have I0 : Hid (Ints w1 B (.slice (some ⟨B, 0, none⟩) 0 0) (fls 0 (fun i => decide (ys.getD i 0 ∈ xs)))) := by
    rw [← hw1, ← hB]; exact World.ownsRow_made w #[] 0 (Nat.le_refl _) (by decide) rfl
  have B1 : Hid (Below B w w1) := by rw [← hw1]; exact (Below.refl _ _).alloc (by omega) _
  have HB := Lib.hid hB
  obtain ⟨va, vc, rfl, -, -⟩ := hv.shape
  clear hv hu hc hm
  go_enter Tryd.func69, Tryd.ntmps69
  go_wp2
  try rw [hw1]
  clear hw1 hB
  go_loopw [5, 6] (fun rv i wr => ∃ j : Nat, j ≤ m ∧ i = .int .i64 j ∧ Hid (Ints wr B rv (fls j (fun i => decide (ys.getD i 0 ∈ xs)))) ∧ Hid (Below B w wr)) (fun _ i _ => m - (intOf i).toNat)
  case atStart => exact ⟨0, by omega, rfl, I0, B1⟩
  case round =>
    obtain ⟨j, hj, rfl, hI, hBl⟩ := hrel
    by_cases c : j < m
    · have k1 : decide (j < m) = true := by simpa using c
      have k1' : decide ((j : Int) < (m : Int)) = true := decide_eq_true (by omega)
      have w3 := IntWalk.i64_in ((j : Int) + 1) (by omega)
      have j0 : (0 : Int) ≤ (j : Int) := by omega
      have j1 : (j : Int) < (m : Int) := by omega
      obtain ⟨g, off, rfl, cj⟩ := HC.out wr hBl.out j c
      have RX := RS.out j
      have LJ : (fls j (fun i => decide (ys.getD i 0 ∈ xs))).length < 1000000000000 := by have := RL.out j; omega
      have nz : B ≤ wr.heap.size := by have := hBl.out.size; have := HB.out; omega
      obtain ⟨y, hy⟩ : ∃ y, ys.getD j 0 = y := ⟨_, rfl⟩
      have h1 := Lib.hid (HH.out y wr hBl.out)
      rw [hy] at cj RX
      obtain ⟨b1, hb1⟩ : ∃ q, decide (y ∈ xs) = q := ⟨_, rfl⟩
      rw [hb1] at h1 RX
      clear hb1 hy
      cases b1 with
      | false =>
        have RX2 : Hid (fls (j + 1) (fun i => decide (ys.getD i 0 ∈ xs)) = fls j (fun i => decide (ys.getD i 0 ∈ xs))) := by unfold Hid; rw [RX]; simp
        clear RX
        go_wp2_with fail
        refine h1.out.mono ?_
        rintro e w9 ⟨rfl, rfl⟩
        go_wp2
        go_roundw
        case rel => exact ⟨j + 1, by omega, by go_num, by unfold Hid; rw [RX2.out]; exact hI.out, hBl⟩
        case measure => simp [intOf]; omega
      | true =>
        have RX2 : Hid (fls (j + 1) (fun i => decide (ys.getD i 0 ∈ xs)) = fls j (fun i => decide (ys.getD i 0 ∈ xs)) ++ [(j : Int)]) := by unfold Hid; rw [RX]; simp
        clear RX
        go_wp2_with fail
        refine h1.out.mono ?_
        rintro e w9 ⟨rfl, ew⟩
        subst ew
        go_wp2_with (at_builtin; refine wpList_push wr (by rfl) _ _ (by rfl) B _ _ (by rfl) hI.out (j : Int) _ (by rfl) LJ nz ?_; intro v' w8 hn hb; have HN := Lib.hid hn; have HB8 := Lib.hid hb; clear hn hb)
        go_roundw
        case rel => exact ⟨j + 1, by omega, by go_num, by unfold Hid; rw [RX2.out]; exact HN.out, hBl.out.trans HB8.out⟩
        case measure => simp [intOf]; omega
    · have k1 : decide (j < m) = false := by simpa using c
      have k1' : decide ((j : Int) < (m : Int)) = false := decide_eq_false (by omega)
      obtain rfl : j = m := by omega
      go_wp2
      go_ret
      exact ⟨_, rfl, by rw [HB.out]; exact hI.out, by rw [HB.out]; exact hBl.out⟩

noncomputable def ppN (xss : List (List Int)) (idx : Int) (ys : List Int) : Int := if ys.length = 0 then 0 else dxN ys.length (skL idx (plF xss ys) xss.length)
noncomputable def ppL (xss : List (List Int)) (idx : Int) (ys : List Int) : List (List Int) := if ys.length = 0 then [] else dxL (skL idx (plF xss ys) xss.length)
noncomputable def ppC (xss : List (List Int)) (idx : Int) (ys : List Int) : Int := if ys.length = 0 then 6 else dxC (skL idx (plF xss ys) xss.length)
theorem any_mem {Ls : List (List Int)} (h : [] ∈ Ls) : anyE Ls = true := by
  unfold anyE; rw [List.any_eq_true]; exact ⟨[], h, rfl⟩
theorem any_none {Ls : List (List Int)} (h : ∀ l ∈ Ls, l ≠ []) : anyE Ls = false := by
  unfold anyE; rw [List.any_eq_false]
  intro l hl he
  exact h l hl (List.isEmpty_iff.1 he)
theorem getD_inL {α : Type} {L : List α} {i : Nat} {d : α} (h : i < L.length) : L.getD i d ∈ L := by
  rw [List.getD_eq_getElem?_getD, List.getElem?_eq_getElem h]; exact List.getElem_mem _

set_option maxRecDepth 100000 in
set_option maxHeartbeats 2000000 in
theorem sPart (xss : List (List Int)) (idx : Int) (ys : List Int) (hm : xss.length ≤ 128) (hy : ys.length ≤ 32) (w : World) (v u : Value) (g : Nat) (c1 : w.cell? ⟨g, 1, none⟩ = some v) (hv : RowsAt w v xss) (hu : IntsAt w u ys) :
    Calls Tryd.prog 34 #[.pointer (some ⟨g, 0, none⟩), .int .i64 idx, u] w fun e w' => ∃ z, e = .returned (.tuple #[.agg #[.int .i64 (ppN xss idx ys), z], .int .i64 (ppC xss idx ys)]) ∧ RowsL w' w.heap.size w'.heap.size z (ppL xss idx ys) ∧ Below w.heap.size w w' := by
  obtain ⟨B, hB⟩ : ∃ B, w.heap.size = B := ⟨_, rfl⟩
  have lg : g < B := by rw [← hB]; exact World.block_lt_of_cell? w _ c1
  obtain ⟨a, cap, rfl, K0⟩ := hv.rowsIn
  rw [hB] at K0
  obtain ⟨m, hmm⟩ : ∃ m, xss.length = m := ⟨_, rfl⟩
  have DC := Lib.hid (fun W (h : Below B w W) => (show W.cell? ⟨g, 1, none⟩ = some (.slice a m cap) by rw [← hmm]; exact (h.cell (p := ⟨g, 1, none⟩) lg).trans c1))
  obtain ⟨w1, hw1⟩ : ∃ w1, w.alloc (.cells #[.int .i64 0, .slice none 0 0] 24) = w1 := ⟨_, rfl⟩
  have b1 : Below B w w1 := by rw [← hw1]; exact (Below.refl _ _).alloc (by omega) _
  have z1 : w1.heap.size = B + 1 := by rw [← hw1, World.size_alloc, hB]
  have R1 : w1.heap[B]? = some (.cells #[.int .i64 0, .slice none 0 0] 24 (0, 0)) := by rw [← hw1, ← hB]; exact heap_alloc_new _ _
  have HB := Lib.hid hB
  have EN : Hid (∀ (W : World), W.heap[B]? = some (.cells #[.int .i64 0, .slice none 0 0] 24 (0, 0)) → Below B w W → ppN xss idx ys = 0 ∧ ppL xss idx ys = [] ∧ ppC xss idx ys = 6 → ∀ (tmps : Array Value), tmps.getD 6 undef = .pointer (some ⟨B, 0, none⟩) → tmps.getD 7 undef = .int .i64 6 →
      bodyPost Tryd.prog Tryd.f34 (fun e w' => ∃ z, e = .returned (.tuple #[.agg #[.int .i64 (ppN xss idx ys), z], .int .i64 (ppC xss idx ys)]) ∧ RowsL w' w.heap.size w'.heap.size z (ppL xss idx ys) ∧ Below w.heap.size w w') Exit.ret { tmps := tmps, defers := [] } ((W.setCell ⟨B, 0, none⟩ (.int .i64 0)).setCell ⟨B, 1, none⟩ (.slice none 0 0))) := fun W hk hb hf tmps t2 t3 => by
    refine endsD (fn := Tryd.f34) (i := 6) (j := 7) rfl W B _ _ hk _ _ _ _ ⟨.slice none 0 0, by rw [hf.1, hf.2.2], ?_, ?_⟩ tmps t2 t3
    · rw [hf.2.1]; exact RowsL.nil _ _ _ (Nat.le_refl _)
    · rw [HB.out]
      exact (hb.setCell (p := ⟨B, 0, none⟩) (Nat.le_refl B) _).setCell (p := ⟨B, 1, none⟩) (Nat.le_refl B) _
  obtain ⟨ua, uc, rfl, hul, -⟩ := hu.shape
  obtain ⟨l, hl⟩ : ∃ l, ys.length = l := ⟨_, rfl⟩
  by_cases l0 : ys.length = 0
  · have V : Hid (ppN xss idx ys = 0 ∧ ppL xss idx ys = [] ∧ ppC xss idx ys = 6) := by unfold Hid ppN ppL ppC; rw [if_pos l0, if_pos l0, if_pos l0]; exact ⟨rfl, rfl, rfl⟩
    obtain ⟨d0, d1, f0, f1⟩ := cells2 w1 B _ _ _ R1
    have RR1 := Lib.hid R1
    have BB1 := Lib.hid b1
    rw [l0]
    clear hv hu K0 R1 b1 l0 hl hul
    go_enter Tryd.func34, Tryd.ntmps34
    go_wp2
    try rw [hw1]
    exact EN.out w1 RR1.out BB1.out V.out _ rfl rfl
  have l1 : 0 < l := by omega
  have VV : Hid (ppN xss idx ys = dxN l (skL idx (plF xss ys) m) ∧ ppL xss idx ys = dxL (skL idx (plF xss ys) m) ∧ ppC xss idx ys = dxC (skL idx (plF xss ys) m)) := by unfold Hid ppN ppL ppC; rw [if_neg l0, if_neg l0, if_neg l0, hl, hmm]; exact ⟨rfl, rfl, rfl⟩
  have HPl := Lib.hid (fun k (hk : k < m) W (h : Below B w W) x (hx : IntsAt W x (xss.getD k [])) => sPlaces (xss.getD k []) ys hy W x _ hx (hu.below h (Nat.le_of_eq hB)))
  have KR := Lib.hid (fun W (h : Below B w W) j (hj : j < m) => K0 W h j (by rw [hmm]; exact hj))
  have SK : Hid (∀ k, skL idx (plF xss ys) (k + 1) = skL idx (plF xss ys) k ++ if (k : Int) = idx then [] else [plF xss ys k]) := fun k => rfl
  have SI : Hid (∀ k, k < m → (k : Int) ≠ idx → plF xss ys k ∈ skL idx (plF xss ys) m) := fun k hk hne => skL_in idx _ hne m hk
  have SL : Hid (∀ k, (skL idx (plF xss ys) k).length ≤ k) := fun k => skL_len _ _ k
  have PF : Hid (∀ k, fls ys.length (fun i => decide (ys.getD i 0 ∈ xss.getD k [])) = plF xss ys k) := fun k => rfl
  have PR : Hid (∀ k, Rises 0 ((l : Int) - 1) (plF xss ys k) ∧ (plF xss ys k).length ≤ 32) := fun k => by
    unfold plF; rw [hl]; exact ⟨fls_rises l _, Nat.le_trans (fls_len _ _) (by omega)⟩
  have SM : Hid (∀ k x, x ∈ skL idx (plF xss ys) k → ∃ i, x = plF xss ys i) := fun k x hx => by obtain ⟨i, -, e⟩ := skL_mem idx _ k x hx; exact ⟨i, e⟩
  obtain ⟨F, hF⟩ : ∃ F, plF xss ys = F := ⟨_, rfl⟩
  simp only [hF] at VV SK SI SL PF PR SM
  simp only [hl] at PF
  simp only [hl, PF.out] at HPl
  have l32 : l ≤ 32 := by omega
  obtain ⟨w2, hw2⟩ : ∃ w2, w1.alloc (.cells #[] 41) = w2 := ⟨_, rfl⟩
  have b12 : Below (B + 1) w1 w2 := by rw [← hw2]; exact (Below.refl _ _).alloc (by omega) _
  have z2 : w2.heap.size = B + 2 := by rw [← hw2, World.size_alloc, z1]
  have M0 : Hid (RowsL w2 (B + 1) w2.heap.size (.slice (some ⟨B + 1, 0, none⟩) 0 0) (skL idx F 0)) := by
    have := RowsL.made w1 (B + 1) 0 #[] (by omega) (by decide) rfl
    rw [← World.size_alloc w1 (.cells #[] 41), hw2, z1] at this
    exact this
  have R2 := Lib.hid ((b12.block B (Nat.lt_succ_self B)).trans R1)
  have B2 : Hid (Below B w w2) := b1.trans (b12.mono (by omega))
  have BQ : Hid (Below (B + 1) w2 w2) := Below.refl _ _
  have ZZ := Lib.hid z2
  have N0 : Hid (∀ x ∈ skL idx F 0, x ≠ []) := fun x hx => by cases hx
  have u0 : ¬ (l : Int) = 0 := by omega
  have u1 : ((l : Int) == 0) = false := by simp; omega
  have u2 : (l == 0) = false := by simp; omega
  rw [hl]
  clear hv hu K0 R1 b1 b12 l0 hl hul hF c1
  go_enter Tryd.func34, Tryd.ntmps34
  go_wp2
  try rw [hw1]
  try rw [z1]
  try rw [hw2]
  clear hw1 hw2 z1 z2
  go_loopw [8, 9] (fun rv i wr => ∃ k : Nat, k ≤ m ∧ i = .int .i64 k ∧ Hid (RowsL wr (B + 1) wr.heap.size rv (skL idx F k)) ∧ Hid (Below (B + 1) w2 wr) ∧ Hid (∀ x ∈ skL idx F k, x ≠ [])) (fun _ i _ => m - (intOf i).toNat)
  case atStart => exact ⟨0, by omega, rfl, M0, BQ, N0⟩
  case round =>
    obtain ⟨k, hk, rfl, hR, hBl, hN⟩ := hrel
    have BW : Hid (Below B w wr) := B2.out.trans (hBl.out.mono (by omega))
    have cc1 := DC.out wr BW.out
    have bz : B + 1 ≤ wr.heap.size := by have := hBl.out.size; have := ZZ.out; omega
    by_cases c : k < m
    · have k1 : decide (k < m) = true := by simpa using c
      have k1' : decide ((k : Int) < (m : Int)) = true := decide_eq_true (by omega)
      have wk := IntWalk.i64_in ((k : Int) + 1) (by omega)
      have j0 : (0 : Int) ≤ (k : Int) := by omega
      have j1 : (k : Int) < (m : Int) := by omega
      by_cases ei : (k : Int) = idx
      · have E1 : Hid (skL idx F (k + 1) = skL idx F k) := by have := SK.out k; rwa [if_pos ei, List.append_nil] at this
        subst ei
        have t1 : ((k : Int) == (k : Int)) = true := by simp
        go_wp2
        go_roundw
        case rel => exact ⟨k + 1, by omega, by go_num, by unfold Hid; rw [E1.out]; exact hR.out, hBl, by unfold Hid; rw [E1.out]; exact hN.out⟩
        case measure => simp [intOf]; omega
      · have t1 : ((k : Int) == idx) = false := by simpa using ei
        obtain ⟨g1, o1, ux, rfl, e2, e3⟩ := KR.out wr BW.out k c
        have HP := Lib.hid (HPl.out k c wr BW.out ux e3)
        have E0 := SK.out k
        rw [if_neg ei] at E0
        have E0 := Lib.hid E0
        have IN := Lib.hid (SI.out k c ei)
        have ei := Lib.hid ei
        obtain ⟨b, hb⟩ : ∃ b, wr.heap.size = b := ⟨_, rfl⟩
        rw [hb] at HP bz hR
        have hb' := Lib.hid hb
        obtain ⟨uxa, uxc, rfl, -, -⟩ := e3.shape
        obtain ⟨lx, hlx⟩ : ∃ lx, (xss.getD k []).length = lx := ⟨_, rfl⟩
        rw [hlx] at e2 HP
        clear e3 hlx
        go_wp2_with fail
        refine HP.out.mono ?_
        rintro e w5 ⟨r, rfl, hI, b5⟩
        have R5 := Lib.hid (hR.out.below b5 (Nat.le_of_eq hb'.out))
        have B5 : Hid (Below (B + 1) w2 w5) := hBl.out.trans (b5.mono bz)
        have W5 : Hid (Below B w w5) := BW.out.trans (b5.mono (by omega))
        obtain ⟨ra, rc, rfl⟩ := hI.len_eq
        have I5 := Lib.hid hI
        obtain ⟨lf, hlf⟩ : ∃ lf, (F k).length = lf := ⟨_, rfl⟩
        rw [hlf]
        rw [hlf] at I5
        have s5 : b ≤ w5.heap.size := by have := b5.size; have := hb'.out; omega
        clear hI b5 hb e2 cc1 HP
        by_cases lz : lf = 0
        · have V : Hid (ppN xss idx ys = 0 ∧ ppL xss idx ys = [] ∧ ppC xss idx ys = 6) := by
            have e := any_mem (Ls := skL idx F m) (by have := IN.out; rwa [List.eq_nil_of_length_eq_zero (hlf.trans lz)] at this)
            have d := dx_empty (l : Int) e
            exact ⟨VV.out.1.trans d.1, VV.out.2.1.trans d.2.1, VV.out.2.2.trans d.2.2⟩
          have R9 : w5.heap[B]? = some (.cells #[.int .i64 0, .slice none 0 0] 24 (0, 0)) := (B5.out.block B (by omega)).trans R2.out
          obtain ⟨d0, d1, f0, f1⟩ := cells2 w5 B _ _ _ R9
          have R9 := Lib.hid R9
          subst lz
          clear hlf
          go_wp2
          exact EN.out w5 R9.out W5.out V.out _ rfl rfl
        · have q1 : ((lf : Int) == 0) = false := by simp; omega
          have q2 : (lf == 0) = false := by simp; omega
          have NE : Hid (∀ x ∈ skL idx F (k + 1), x ≠ []) := fun x hx => by
            rw [E0.out, List.mem_append, List.mem_singleton] at hx
            rcases hx with hx | rfl
            · exact hN.out x hx
            · intro h; rw [h] at hlf; simp at hlf; omega
          have gl : (skL idx F k).length < 1000000000 := by have := SL.out k; omega
          clear hlf lz
          go_wp2_with (at_builtin; refine wpList_pushR w5 (by rfl) _ _ (by rfl) (B + 1) b _ _ _ _ (by rfl) R5.out I5.out _ (by rfl) gl bz ?_; intro v' w8 hn hb; have HN := Lib.hid hn; have HB8 := Lib.hid hb; clear hn hb)
          go_roundw
          case rel => exact ⟨k + 1, by omega, by go_num, by unfold Hid; rw [E0.out]; exact HN.out, B5.out.trans HB8.out, NE⟩
          case measure => simp [intOf]; omega
    · have k1 : decide (k < m) = false := by simpa using c
      have k1' : decide ((k : Int) < (m : Int)) = false := decide_eq_false (by omega)
      obtain rfl : k = m := by omega
      have hne := any_none hN.out
      have hrise : ∀ i, i < (skL idx F k).length → Rises 0 ((l : Int) - 1) ((skL idx F k).getD i []) ∧ ((skL idx F k).getD i []).length ≤ 32 := fun i hi => by
        obtain ⟨q, e⟩ := SM.out k _ (getD_inL (d := []) hi)
        rw [e]; exact PR.out q
      have DM := dx_mk (n := (l : Int)) (by omega) (by omega) hne (fun i hi => (hrise i hi).1)
      have HM := sMake (l : Int) (by omega) (by omega) (skL idx F k) (by have := SL.out k; omega) (fun i hi => by have := (hrise i hi).2; omega) wr _ hR.out.at
      rw [DM.1, DM.2.1, DM.2.2, ← VV.out.1, ← VV.out.2.1, ← VV.out.2.2] at HM
      obtain ⟨qn, hqn⟩ : ∃ q, ppN xss idx ys = q := ⟨_, rfl⟩
      obtain ⟨qc, hqc⟩ : ∃ q, ppC xss idx ys = q := ⟨_, rfl⟩
      obtain ⟨ql, hql⟩ : ∃ q, ppL xss idx ys = q := ⟨_, rfl⟩
      rw [hqn, hqc, hql] at HM
      have HQ : Hid (ppN xss idx ys = qn ∧ ppC xss idx ys = qc ∧ ppL xss idx ys = ql) := ⟨hqn, hqc, hql⟩
      have HM := Lib.hid HM
      have R8 := Lib.hid ((hBl.out.block B (by omega)).trans R2.out)
      obtain ⟨va, vc', rfl, -⟩ := hR.out.at.shape
      clear hqn hqc hql DM hne hrise hN hR
      go_wp2_with fail
      refine HM.out.mono ?_
      rintro e w9 ⟨z, rfl, hL, hO⟩
      have RX : w9.heap[B]? = some (.cells #[.int .i64 0, .slice none 0 0] 24 (0, 0)) := (hO.block B (by omega)).trans R8.out
      have BX : Hid (Below B w w9) := BW.out.trans (hO.mono (by omega))
      obtain ⟨ay, ly, cy, rfl⟩ : ∃ a l c, z = .slice a l c := by obtain ⟨a, c, e, -⟩ := hL.at.shape; exact ⟨a, _, c, e⟩
      obtain ⟨d0, d1, f0, f1⟩ := cells2 w9 B _ _ _ RX
      have LX := Lib.hid hL
      have RX := Lib.hid RX
      clear hL hO
      go_wp2
      refine endsD (fn := Tryd.f34) (i := 6) (j := 7) rfl w9 B _ _ RX.out _ _ _ _ ⟨.slice ay ly cy, by rw [HQ.out.1, HQ.out.2.1]; rfl, ?_, ?_⟩ _ rfl rfl
      · rw [HQ.out.2.2]
        exact (RowsL.off2 LX.out (show B < wr.heap.size by omega) _ _).mono (by have := HB.out; omega) (by simp [World.setCell]) (Nat.le_refl _)
      · rw [HB.out]
        exact (BX.out.setCell (p := ⟨B, 0, none⟩) (Nat.le_refl B) _).setCell (p := ⟨B, 1, none⟩) (Nat.le_refl B) _

/-! Derived and residual designs: the model's. -/
section
open Go.RowKit Go.Shelf
set_option linter.unusedVariables false
set_option linter.unusedSimpArgs false

theorem rises_ge {n : Int} {xs : List Int} (h : Rises 0 (n - 1) xs) : ∀ i, i < xs.length → (i : Int) ≤ xs.getD i 0
  | 0, hi => by have := (h 0 hi).1; omega
  | i + 1, hi => by
    have a := (h (i + 1) hi).2.2 (by omega)
    have b := rises_ge h i (by omega)
    rw [show i + 1 - 1 = i by omega] at a
    omega
theorem blk_len {n : Int} {xs : List Int} (hn : n ≤ 32) (h : Rises 0 (n - 1) xs) : xs.length ≤ 32 := by
  by_cases c : xs.length = 0
  · omega
  · have a := rises_ge h (xs.length - 1) (by omega)
    have b := (h (xs.length - 1) (by omega)).2.1
    omega
theorem dp_pp {n : Int} {xss : List (List Int)} {idx : Int} (ys : List Int) (h : desB n xss = true ∧ inIdx idx xss.length = true) : dpN n xss idx ys = ppN xss idx ys ∧ dpL n xss idx ys = ppL xss idx ys ∧ dpC n xss idx ys = ppC xss idx ys := by
  unfold dpN dpL dpC ppN ppL ppC; rw [h.1, h.2, if_pos rfl, if_pos rfl, if_pos rfl, if_pos rfl, if_pos rfl, if_pos rfl]; exact ⟨rfl, rfl, rfl⟩

set_option maxRecDepth 100000 in
set_option maxHeartbeats 1000000 in
theorem sAsk (n : Int) (xss : List (List Int)) (idx : Int) (w : World) (v : Value) (g : Nat) (c0 : w.cell? ⟨g, 0, none⟩ = some (.int .i64 n)) (c1 : w.cell? ⟨g, 1, none⟩ = some v) (hv : RowsAt w v xss) :
    Calls Tryd.prog 33 #[.pointer (some ⟨g, 0, none⟩), .int .i64 idx] w fun e w' => e = .returned (.int .i64 (askC n xss idx)) ∧ ∃ d, w' = w.drewN d := by
  have HO := Lib.hid (sOk n xss w v g c0 c1 hv)
  obtain ⟨a, cap, rfl, -⟩ := hv.shape
  have hml := hv.1
  obtain ⟨m, hm⟩ : ∃ m, xss.length = m := ⟨_, rfl⟩
  rw [hm] at c1 hml
  have HM := Lib.hid hm
  have DC := Lib.hid (fun d => (show (w.drewN d).cell? ⟨g, 1, none⟩ = some (.slice a m cap) from c1))
  cases hp : desB n xss with
  | false =>
    have V := Lib.hid (ask_no idx hp)
    rw [hp] at HO
    clear hp hv c0 c1
    go_enter Tryd.func33, Tryd.ntmps33
    go_wp2_with fail
    refine HO.out.mono ?_
    rintro e w3 ⟨rfl, d, rfl⟩
    go_wp2
    go_ret
    exact ⟨by rw [V.out]; rfl, d, rfl⟩
  | true =>
    have HP := Lib.hid hp
    rw [hp] at HO
    have m128 : m ≤ 128 := by have := (of_desB hp).2.2.1; omega
    have w1 := IntWalk.i64_in ((m : Int) - 1) (by omega)
    have HA := Lib.hid (fun W => in_any idx 0 ((m : Int) - 1) W)
    clear hp hv c0 c1
    go_enter Tryd.func33, Tryd.ntmps33
    go_wp2_with fail
    refine HO.out.mono ?_
    rintro e w3 ⟨rfl, d, rfl⟩
    have c3 := DC.out d
    go_wp2_with fail
    by_cases q : 0 ≤ idx ∧ idx ≤ (m : Int) - 1
    · rw [decide_eq_true q] at HA
      have V := Lib.hid (ask_ok HP.out (show inIdx idx xss.length = true from decide_eq_true (by rw [HM.out]; omega)))
      clear q
      refine (HA.out _).mono ?_
      rintro e w5 ⟨rfl, rfl⟩
      go_wp2
      go_ret
      exact ⟨by rw [V.out]; rfl, d, rfl⟩
    · rw [decide_eq_false q] at HA
      have V := Lib.hid (ask_range HP.out (show inIdx idx xss.length = false from decide_eq_false (by rw [HM.out]; omega)))
      clear q
      refine (HA.out _).mono ?_
      rintro e w5 ⟨rfl, rfl⟩
      go_wp2
      go_ret
      exact ⟨by rw [V.out]; rfl, d, rfl⟩

set_option maxRecDepth 100000 in
set_option maxHeartbeats 2000000 in
theorem sDerivedDesign (n : Int) (xss : List (List Int)) (idx : Int) (w : World) (v : Value) (hv : RowsAt w v xss) :
    Calls Tryd.prog 13 #[.agg #[.int .i64 n, v], .int .i64 idx] w fun e w' => ∃ z, e = .returned (.tuple #[.agg #[.int .i64 (dpN n xss idx (insY xss idx)), z], .int .i64 (dpC n xss idx (insY xss idx))]) ∧ RowsL w' w.heap.size w'.heap.size z (dpL n xss idx (insY xss idx)) ∧ Below w.heap.size w w' := by
  have hx := hv
  obtain ⟨va, cap, rfl, K0⟩ := hv.rowsIn
  obtain ⟨m, hm⟩ : ∃ m, xss.length = m := ⟨_, rfl⟩
  rw [hm] at hv K0 hx ⊢
  have HM := Lib.hid hm
  obtain ⟨B, hB⟩ : ∃ B, w.heap.size = B := ⟨_, rfl⟩
  rw [hB] at K0
  obtain ⟨w1, hw1⟩ : ∃ w1, w.alloc (.cells #[.int .i64 n, .slice va m cap] 24) = w1 := ⟨_, rfl⟩
  have z1 : w1.heap.size = B + 1 := by rw [← hw1, World.size_alloc, hB]
  have b1 : Below B w w1 := by rw [← hw1]; exact (Below.refl _ _).alloc (by omega) _
  have A1 : w1.heap[B]? = some (.cells #[.int .i64 n, .slice va m cap] 24 (0, 0)) := by rw [← hw1, ← hB]; exact heap_alloc_new _ _
  obtain ⟨w2, hw2⟩ : ∃ w2, w1.alloc (.cells #[.int .i64 0, .slice none 0 0] 24) = w2 := ⟨_, rfl⟩
  have z2 : w2.heap.size = B + 2 := by rw [← hw2, World.size_alloc, z1]
  have b12 : Below (B + 1) w1 w2 := by rw [← hw2]; exact (Below.refl _ _).alloc (Nat.le_of_eq z1.symm) _
  have b2 : Below B w w2 := b1.trans (b12.mono (Nat.le_succ B))
  have R2 : w2.heap[B + 1]? = some (.cells #[.int .i64 0, .slice none 0 0] 24 (0, 0)) := by rw [← hw2, ← z1]; exact heap_alloc_new _ _
  have A2 := (b12.block B (Nat.lt_succ_self B)).trans A1
  obtain ⟨c0, c1, -, -⟩ := cells2 w2 B _ _ _ A2
  have hv2 := hx.below b2 (by omega)
  have HO := Lib.hid (sAsk n xss idx w2 _ B c0 c1 hv2)
  have HB := Lib.hid hB
  have B2 := Lib.hid b2
  have HR2 := Lib.hid R2
  have EN : Hid (∀ (W : World) (cd : Int), W.heap[B + 1]? = some (.cells #[.int .i64 0, .slice none 0 0] 24 (0, 0)) → Below B w W → dpN n xss idx (insY xss idx) = 0 ∧ dpL n xss idx (insY xss idx) = [] ∧ dpC n xss idx (insY xss idx) = cd → ∀ (tmps : Array Value), tmps.getD 4 undef = .pointer (some ⟨B + 1, 0, none⟩) → tmps.getD 5 undef = .int .i64 cd →
      bodyPost Tryd.prog Tryd.f13 (fun e w' => ∃ z, e = .returned (.tuple #[.agg #[.int .i64 (dpN n xss idx (insY xss idx)), z], .int .i64 (dpC n xss idx (insY xss idx))]) ∧ RowsL w' w.heap.size w'.heap.size z (dpL n xss idx (insY xss idx)) ∧ Below w.heap.size w w') Exit.ret { tmps := tmps, defers := [] } ((W.setCell ⟨B + 1, 0, none⟩ (.int .i64 0)).setCell ⟨B + 1, 1, none⟩ (.slice none 0 0))) := fun W cd hk hb hf tmps t2 t3 => by
    refine endsD (fn := Tryd.f13) (i := 4) (j := 5) rfl W (B + 1) _ _ hk _ _ _ _ ⟨.slice none 0 0, by rw [hf.1, hf.2.2], ?_, ?_⟩ tmps t2 t3
    · rw [hf.2.1]; exact RowsL.nil _ _ _ (Nat.le_refl _)
    · rw [HB.out]
      exact (hb.setCell (p := ⟨B + 1, 0, none⟩) (Nat.le_succ B) _).setCell (p := ⟨B + 1, 1, none⟩) (Nat.le_succ B) _
  by_cases hk : desB n xss = true ∧ inIdx idx xss.length = true
  · obtain ⟨e1, e2, e3⟩ := dp_pp (insY xss idx) hk
    have D := of_desB hk.1
    have A0 := ask_ok hk.1 hk.2
    rw [A0] at HO
    obtain ⟨k0, k1⟩ := of_decide_eq_true hk.2
    obtain ⟨k, rfl⟩ : ∃ k : Nat, idx = k := ⟨idx.toNat, by omega⟩
    obtain ⟨N, rfl⟩ : ∃ N : Nat, n = N := ⟨n.toNat, by have := D.1; omega⟩
    have n32 : N ≤ 32 := by have := D.2.1; omega
    have m128 : m ≤ 128 := by have := D.2.2.1; omega
    have hkm : k < m := by omega
    have BK := (D.2.2.2 k (by omega)).1
    have yl : (xss.getD k []).length ≤ 32 := blk_len (by omega) BK.2
    obtain ⟨g1, o1, u, rfl, u2, u3⟩ := K0 w2 b2 k (by omega)
    have u3' := u3
    have gB : g1 < B := by
      obtain ⟨p, q, r, e, c, -⟩ := K0 w (Below.refl _ _) k (by omega)
      simp only [Option.some.injEq, Addr.mk.injEq] at e
      obtain ⟨rfl, rfl, -⟩ := e
      rw [← hB]; exact World.block_lt_of_cell? w _ c
    obtain ⟨ua, uc, rfl, -, -⟩ := u3.shape
    obtain ⟨lu, hlu⟩ : ∃ lu, (xss.getD k []).length = lu := ⟨_, rfl⟩
    have j0 : (0 : Int) ≤ (k : Int) := by omega
    have j1 : (k : Int) < (m : Int) := by omega
    have DD : Hid (∀ d, (w2.drewN d).cell? ⟨B, 0, none⟩ = some (.int .i64 (N : Int)) ∧ (w2.drewN d).cell? ⟨B, 1, none⟩ = some (.slice (some ⟨g1, o1, none⟩) m cap) ∧ (w2.drewN d).cell? ⟨g1, o1 + k, none⟩ = some (.slice ua lu uc)) := fun d => ⟨c0, c1, by rw [← hlu]; exact u2⟩
    have HPt0 := Lib.hid (fun d => sPart xss (k : Int) (xss.getD k []) (by omega) yl (w2.drewN d) _ _ B c1 (hv2.drewN d) u3')
    have eY : insY xss (k : Int) = xss.getD k [] := by unfold insY; rw [Int.toNat_natCast]
    rw [← eY] at HPt0
    obtain ⟨qn, hqn⟩ : ∃ q, ppN xss (k : Int) (insY xss (k : Int)) = q := ⟨_, rfl⟩
    obtain ⟨qc, hqc⟩ : ∃ q, ppC xss (k : Int) (insY xss (k : Int)) = q := ⟨_, rfl⟩
    obtain ⟨ql, hql⟩ : ∃ q, ppL xss (k : Int) (insY xss (k : Int)) = q := ⟨_, rfl⟩
    simp only [hqn, hqc, hql] at HPt0
    have HQ : Hid (dpN (N : Int) xss (k : Int) (insY xss (k : Int)) = qn ∧ dpC (N : Int) xss (k : Int) (insY xss (k : Int)) = qc ∧ dpL (N : Int) xss (k : Int) (insY xss (k : Int)) = ql) := ⟨e1.trans hqn, e3.trans hqc, e2.trans hql⟩
    rw [eY, hlu] at HPt0
    have S2 := Lib.hid z2
    clear hv hx K0 A1 b1 A2 R2 b12 b2 hv2 c0 c1 hqn hqc hql e1 e2 e3 D BK u2 u3 u3' yl A0 k0 k1 hk hlu eY
    go_enter Tryd.func13, Tryd.ntmps13
    go_wp2_with fail
    try rw [hw1]
    try rw [z1]
    try rw [hw2]
    refine HO.out.mono ?_
    rintro e w3 ⟨rfl, d, rfl⟩
    obtain ⟨c0, c1, c2⟩ := DD.out d
    have SZ : B + 1 < (w2.drewN d).heap.size := by show B + 1 < w2.heap.size; have := S2.out; omega
    have R5 : (w2.drewN d).heap[B + 1]? = some (.cells #[.int .i64 0, .slice none 0 0] 24 (0, 0)) := HR2.out
    have B5 : Below B w (w2.drewN d) := below_drewN B2.out d
    have HPt := HPt0.out d
    go_wp2_with fail
    refine HPt.mono ?_
    rintro e w9 ⟨z, rfl, hL, hO⟩
    have RX : w9.heap[B + 1]? = some (.cells #[.int .i64 0, .slice none 0 0] 24 (0, 0)) := (hO.block (B + 1) SZ).trans R5
    have BX : Hid (Below B w w9) := B5.trans (hO.mono (by omega))
    obtain ⟨ay, ly, cy, rfl⟩ : ∃ a l c, z = .slice a l c := by obtain ⟨a, c, e, -⟩ := hL.at.shape; exact ⟨a, _, c, e⟩
    obtain ⟨d0, d1, f0, f1⟩ := cells2 w9 (B + 1) _ _ _ RX
    have LX := Lib.hid hL
    have RX := Lib.hid RX
    clear hL hO HPt
    go_wp2
    refine endsD (fn := Tryd.f13) (i := 4) (j := 5) rfl w9 (B + 1) _ _ RX.out _ _ _ _ ⟨.slice ay ly cy, by rw [HQ.out.1, HQ.out.2.1]; rfl, ?_, ?_⟩ _ rfl rfl
    · rw [HQ.out.2.2]
      exact (RowsL.off2 LX.out (show B + 1 < (w2.drewN d).heap.size from SZ) _ _).mono (by have := HB.out; omega) (by simp [World.setCell]) (Nat.le_refl _)
    · rw [HB.out]
      exact (BX.out.setCell (p := ⟨B + 1, 0, none⟩) (Nat.le_succ B) _).setCell (p := ⟨B + 1, 1, none⟩) (Nat.le_succ B) _
  · obtain ⟨v1, v2, v3, v4⟩ := dp_ask (insY xss idx) hk
    obtain ⟨cd, hcd⟩ : ∃ cd, askC n xss idx = cd := ⟨_, rfl⟩
    rw [hcd] at v3 v4 HO
    have V : Hid (dpN n xss idx (insY xss idx) = 0 ∧ dpL n xss idx (insY xss idx) = [] ∧ dpC n xss idx (insY xss idx) = cd) := ⟨v1, v2, v3⟩
    have t1 : (cd != 0) = true := by simpa using v4
    have hk := Lib.hid hk
    clear v1 v2 v3 v4 hcd hv hx K0 A1 b1 A2 R2 b12 b2 hv2 c0 c1
    go_enter Tryd.func13, Tryd.ntmps13
    go_wp2_with fail
    try rw [hw1]
    try rw [z1]
    try rw [hw2]
    refine HO.out.mono ?_
    rintro e w3 ⟨rfl, d, rfl⟩
    obtain ⟨d0, d1, f0, f1⟩ := cells2 (w2.drewN d) (B + 1) _ _ _ (show (w2.drewN d).heap[B + 1]? = _ from HR2.out)
    go_wp2
    exact EN.out (w2.drewN d) cd HR2.out (below_drewN B2.out d) V.out _ rfl rfl

set_option maxRecDepth 100000 in
set_option maxHeartbeats 2000000 in
theorem sResidualDesign (n : Int) (xss : List (List Int)) (idx : Int) (w : World) (v : Value) (hv : RowsAt w v xss) :
    Calls Tryd.prog 16 #[.agg #[.int .i64 n, v], .int .i64 idx] w fun e w' => ∃ z, e = .returned (.tuple #[.agg #[.int .i64 (dpN n xss idx (outY n xss idx)), z], .int .i64 (dpC n xss idx (outY n xss idx))]) ∧ RowsL w' w.heap.size w'.heap.size z (dpL n xss idx (outY n xss idx)) ∧ Below w.heap.size w w' := by
  have hx := hv
  obtain ⟨va, cap, rfl, K0⟩ := hv.rowsIn
  obtain ⟨m, hm⟩ : ∃ m, xss.length = m := ⟨_, rfl⟩
  rw [hm] at hv K0 hx ⊢
  have HM := Lib.hid hm
  obtain ⟨B, hB⟩ : ∃ B, w.heap.size = B := ⟨_, rfl⟩
  rw [hB] at K0
  obtain ⟨w1, hw1⟩ : ∃ w1, w.alloc (.cells #[.int .i64 n, .slice va m cap] 24) = w1 := ⟨_, rfl⟩
  have z1 : w1.heap.size = B + 1 := by rw [← hw1, World.size_alloc, hB]
  have b1 : Below B w w1 := by rw [← hw1]; exact (Below.refl _ _).alloc (by omega) _
  have A1 : w1.heap[B]? = some (.cells #[.int .i64 n, .slice va m cap] 24 (0, 0)) := by rw [← hw1, ← hB]; exact heap_alloc_new _ _
  obtain ⟨w2, hw2⟩ : ∃ w2, w1.alloc (.cells #[.int .i64 0, .slice none 0 0] 24) = w2 := ⟨_, rfl⟩
  have z2 : w2.heap.size = B + 2 := by rw [← hw2, World.size_alloc, z1]
  have b12 : Below (B + 1) w1 w2 := by rw [← hw2]; exact (Below.refl _ _).alloc (Nat.le_of_eq z1.symm) _
  have b2 : Below B w w2 := b1.trans (b12.mono (Nat.le_succ B))
  have R2 : w2.heap[B + 1]? = some (.cells #[.int .i64 0, .slice none 0 0] 24 (0, 0)) := by rw [← hw2, ← z1]; exact heap_alloc_new _ _
  have A2 := (b12.block B (Nat.lt_succ_self B)).trans A1
  obtain ⟨c0, c1, -, -⟩ := cells2 w2 B _ _ _ A2
  have hv2 := hx.below b2 (by omega)
  have HO := Lib.hid (sAsk n xss idx w2 _ B c0 c1 hv2)
  have HB := Lib.hid hB
  have B2 := Lib.hid b2
  have HR2 := Lib.hid R2
  have EN : Hid (∀ (W : World) (cd : Int), W.heap[B + 1]? = some (.cells #[.int .i64 0, .slice none 0 0] 24 (0, 0)) → Below B w W → dpN n xss idx (outY n xss idx) = 0 ∧ dpL n xss idx (outY n xss idx) = [] ∧ dpC n xss idx (outY n xss idx) = cd → ∀ (tmps : Array Value), tmps.getD 4 undef = .pointer (some ⟨B + 1, 0, none⟩) → tmps.getD 5 undef = .int .i64 cd →
      bodyPost Tryd.prog Tryd.f16 (fun e w' => ∃ z, e = .returned (.tuple #[.agg #[.int .i64 (dpN n xss idx (outY n xss idx)), z], .int .i64 (dpC n xss idx (outY n xss idx))]) ∧ RowsL w' w.heap.size w'.heap.size z (dpL n xss idx (outY n xss idx)) ∧ Below w.heap.size w w') Exit.ret { tmps := tmps, defers := [] } ((W.setCell ⟨B + 1, 0, none⟩ (.int .i64 0)).setCell ⟨B + 1, 1, none⟩ (.slice none 0 0))) := fun W cd hk hb hf tmps t2 t3 => by
    refine endsD (fn := Tryd.f16) (i := 4) (j := 5) rfl W (B + 1) _ _ hk _ _ _ _ ⟨.slice none 0 0, by rw [hf.1, hf.2.2], ?_, ?_⟩ tmps t2 t3
    · rw [hf.2.1]; exact RowsL.nil _ _ _ (Nat.le_refl _)
    · rw [HB.out]
      exact (hb.setCell (p := ⟨B + 1, 0, none⟩) (Nat.le_succ B) _).setCell (p := ⟨B + 1, 1, none⟩) (Nat.le_succ B) _
  by_cases hk : desB n xss = true ∧ inIdx idx xss.length = true
  · obtain ⟨e1, e2, e3⟩ := dp_pp (outY n xss idx) hk
    have D := of_desB hk.1
    have A0 := ask_ok hk.1 hk.2
    rw [A0] at HO
    obtain ⟨k0, k1⟩ := of_decide_eq_true hk.2
    obtain ⟨k, rfl⟩ : ∃ k : Nat, idx = k := ⟨idx.toNat, by omega⟩
    obtain ⟨N, rfl⟩ : ∃ N : Nat, n = N := ⟨n.toNat, by have := D.1; omega⟩
    have n32 : N ≤ 32 := by have := D.2.1; omega
    have m128 : m ≤ 128 := by have := D.2.2.1; omega
    have hkm : k < m := by omega
    have BK := (D.2.2.2 k (by omega)).1
    have yl : (xss.getD k []).length ≤ 32 := blk_len (by omega) BK.2
    obtain ⟨g1, o1, u, rfl, u2, u3⟩ := K0 w2 b2 k (by omega)
    have u3' := u3
    have gB : g1 < B := by
      obtain ⟨p, q, r, e, c, -⟩ := K0 w (Below.refl _ _) k (by omega)
      simp only [Option.some.injEq, Addr.mk.injEq] at e
      obtain ⟨rfl, rfl, -⟩ := e
      rw [← hB]; exact World.block_lt_of_cell? w _ c
    obtain ⟨ua, uc, rfl, -, -⟩ := u3.shape
    obtain ⟨lu, hlu⟩ : ∃ lu, (xss.getD k []).length = lu := ⟨_, rfl⟩
    have j0 : (0 : Int) ≤ (k : Int) := by omega
    have j1 : (k : Int) < (m : Int) := by omega
    have DD : Hid (∀ d, (w2.drewN d).cell? ⟨B, 0, none⟩ = some (.int .i64 (N : Int)) ∧ (w2.drewN d).cell? ⟨B, 1, none⟩ = some (.slice (some ⟨g1, o1, none⟩) m cap) ∧ (w2.drewN d).cell? ⟨g1, o1 + k, none⟩ = some (.slice ua lu uc)) := fun d => ⟨c0, c1, by rw [← hlu]; exact u2⟩
    have SZ2 := Lib.hid z2
    have eY : cmbA (fun a b => a && !b) (fls N (fun _ => true)) (xss.getD k []) = (outY (N : Int) xss (k : Int)) := by unfold outY; rw [Int.toNat_natCast, Int.toNat_natCast]; exact cmb_all (n := (N : Int)) rfl n32 BK.2
    have HAl := Lib.hid (fun W => sAllP N n32 W)
    have yl2 : (outY (N : Int) xss (k : Int)).length ≤ 32 := by unfold outY; exact Nat.le_trans (fls_len _ _) (by rw [Int.toNat_natCast]; exact n32)
    have HMi := Lib.hid (fun W (h : Below (B + 2) w2 W) uu (hu : Ints W (B + 2) uu (fls N (fun _ => true))) => sMinusSets (fls N (fun _ => true)) (xss.getD k []) uu (.slice ua lu uc) W (B + 2) hu (by have := u3'.below h (Nat.le_of_eq z2); rwa [hlu] at this))
    simp only [eY] at HMi
    have CC := Lib.hid (fun W (h : Below (B + 2) w2 W) => (show W.cell? ⟨B, 1, none⟩ = some (.slice (some ⟨g1, o1, none⟩) m cap) from (h.cell (p := ⟨B, 1, none⟩) (by show B < B + 2; omega)).trans c1))
    have g1lt : g1 < B + 2 := by rw [← z2]; exact World.block_lt_of_cell? w2 _ u2
    have KEEP : Hid (∀ W, Below (B + 2) w2 W → W.cell? ⟨B, 0, none⟩ = some (.int .i64 (N : Int)) ∧ W.cell? ⟨B, 1, none⟩ = some (.slice (some ⟨g1, o1, none⟩) m cap) ∧ W.cell? ⟨g1, o1 + k, none⟩ = some (.slice ua lu uc)) := fun W h =>
      ⟨(h.cell (p := ⟨B, 0, none⟩) (by show B < B + 2; omega)).trans c0, CC.out W h, by rw [← hlu]; exact (h.cell (p := ⟨g1, o1 + k, none⟩) g1lt).trans u2⟩
    have HPt0 := Lib.hid (fun W (h : Below (B + 2) w2 W) uu (hu : IntsAt W uu (outY (N : Int) xss (k : Int))) => sPart xss (k : Int) (outY (N : Int) xss (k : Int)) (by omega) yl2 W _ _ B (CC.out W h) (hv2.below h (Nat.le_of_eq z2)) hu)
    obtain ⟨qn, hqn⟩ : ∃ q, ppN xss (k : Int) (outY (N : Int) xss (k : Int)) = q := ⟨_, rfl⟩
    obtain ⟨qc, hqc⟩ : ∃ q, ppC xss (k : Int) (outY (N : Int) xss (k : Int)) = q := ⟨_, rfl⟩
    obtain ⟨ql, hql⟩ : ∃ q, ppL xss (k : Int) (outY (N : Int) xss (k : Int)) = q := ⟨_, rfl⟩
    simp only [hqn, hqc, hql] at HPt0
    have HQ : Hid (dpN (N : Int) xss (k : Int) (outY (N : Int) xss (k : Int)) = qn ∧ dpC (N : Int) xss (k : Int) (outY (N : Int) xss (k : Int)) = qc ∧ dpL (N : Int) xss (k : Int) (outY (N : Int) xss (k : Int)) = ql) := ⟨e1.trans hqn, e3.trans hqc, e2.trans hql⟩
    clear hv hx K0 A1 b1 A2 R2 b12 b2 hv2 c0 c1 hqn hqc hql e1 e2 e3 D BK u2 u3 u3' yl A0 k0 k1 hk hlu eY
    go_enter Tryd.func16, Tryd.ntmps16
    go_wp2_with fail
    try rw [hw1]
    try rw [z1]
    try rw [hw2]
    refine HO.out.mono ?_
    rintro e w3 ⟨rfl, d, rfl⟩
    have BQ : Below (B + 2) w2 (w2.drewN d).drew := (below_drewN (Below.refl _ _) d).drew
    go_wp2
    refine wp_region_held_drew (S := fun w' => w'.cell? ⟨B, 0, none⟩ = some (.int .i64 (N : Int)) ∧ w'.cell? ⟨B, 1, none⟩ = some (.slice (some ⟨g1, o1, none⟩) m cap) ∧ w'.cell? ⟨g1, o1 + k, none⟩ = some (.slice ua lu uc)) (by kernel_rfl) (KEEP.out _ BQ) (fun hHeld => ?_)
    refine wpAnyH_take (i := 0) (oi := { dst := some 13, op := Op.move (Operand.tmp 1), type := 2, pos := "l10_designs.go:261", after := #[], guard := none }) (v := ?_) rfl (by kernel_rfl) (by kernel_rfl) (by kernel_rfl) (fun _ _ _ h => h) (Or.inl ⟨by rfl, ?_⟩) (by assumption) ?_
    rotate_left
    · intro w hSw; (try dsimp only at hSw); go_simp
      try with_reducible rfl
    simp only [Act.put, List.setIfInBounds_toArray, List.set_cons_zero, List.set_cons_succ]
    refine wpAnyH_take (i := 1) (oi := { dst := some 14, op := Op.fieldAddr 24 (Operand.tmp 2) 0, type := 0, pos := "l10_designs.go:261", after := #[], guard := none }) (v := ?_) rfl (by kernel_rfl) (by kernel_rfl) (by kernel_rfl) (fun _ _ _ h => h) (Or.inl ⟨by rfl, ?_⟩) (by assumption) ?_
    rotate_left
    · intro w hSw; (try dsimp only at hSw); go_simp
      try with_reducible rfl
    simp only [Act.put, List.setIfInBounds_toArray, List.set_cons_zero, List.set_cons_succ]
    refine wpAnyH_take (i := 2) (oi := { dst := some 15, op := Op.load 2 (Operand.tmp 14), type := 2, pos := "l10_designs.go:261", after := #[{ on := 1, ground := Ground.data }], guard := none }) (v := ?_) rfl (by kernel_rfl) (by kernel_rfl) (by kernel_rfl) (fun _ _ _ h => h) (Or.inl ⟨by rfl, ?_⟩) (by assumption) ?_
    rotate_left
    · intro w hSw; (try dsimp only at hSw); go_simp
      try with_reducible rfl
    simp only [Act.put, List.setIfInBounds_toArray, List.set_cons_zero, List.set_cons_succ]
    refine wpAnyH_take (i := 4) (oi := { dst := some 17, op := Op.fieldAddr 24 (Operand.tmp 2) 1, type := 0, pos := "l10_designs.go:261", after := #[], guard := none }) (v := ?_) rfl (by kernel_rfl) (by kernel_rfl) (by kernel_rfl) (fun _ _ _ h => h) (Or.inl ⟨by rfl, ?_⟩) (by assumption) ?_
    rotate_left
    · intro w hSw; (try dsimp only at hSw); go_simp
      try with_reducible rfl
    simp only [Act.put, List.setIfInBounds_toArray, List.set_cons_zero, List.set_cons_succ]
    refine wpAnyH_take (i := 5) (oi := { dst := some 18, op := Op.load 22 (Operand.tmp 17), type := 22, pos := "l10_designs.go:261", after := #[{ on := 4, ground := Ground.data }], guard := none }) (v := ?_) rfl (by kernel_rfl) (by kernel_rfl) (by kernel_rfl) (fun _ _ _ h => h) (Or.inl ⟨by rfl, ?_⟩) (by assumption) ?_
    rotate_left
    · intro w hSw; (try dsimp only at hSw); go_simp
      try with_reducible rfl
    simp only [Act.put, List.setIfInBounds_toArray, List.set_cons_zero, List.set_cons_succ]
    refine wpAnyH_take (i := 6) (oi := { dst := some 19, op := Op.move (Operand.tmp 1), type := 2, pos := "l10_designs.go:261", after := #[], guard := none }) (v := ?_) rfl (by kernel_rfl) (by kernel_rfl) (by kernel_rfl) (fun _ _ _ h => h) (Or.inl ⟨by rfl, ?_⟩) (by assumption) ?_
    rotate_left
    · intro w hSw; (try dsimp only at hSw); go_simp
      try with_reducible rfl
    simp only [Act.put, List.setIfInBounds_toArray, List.set_cons_zero, List.set_cons_succ]
    refine wpAnyH_take (i := 7) (oi := { dst := some 20, op := Op.indexAddr 22 (Operand.tmp 18) (Operand.tmp 19), type := 0, pos := "l10_designs.go:261", after := #[{ on := 5, ground := Ground.data }, { on := 6, ground := Ground.data }], guard := none }) (v := ?_) rfl (by kernel_rfl) (by kernel_rfl) (by kernel_rfl) (fun _ _ _ h => h) (Or.inl ⟨by rfl, ?_⟩) (by assumption) ?_
    rotate_left
    · intro w hSw; (try dsimp only at hSw); go_simp
      try with_reducible rfl
    simp only [Act.put, List.setIfInBounds_toArray, List.set_cons_zero, List.set_cons_succ]
    refine wpAnyH_take (i := 8) (oi := { dst := some 21, op := Op.load 41 (Operand.tmp 20), type := 41, pos := "l10_designs.go:261", after := #[{ on := 7, ground := Ground.data }], guard := none }) (v := ?_) rfl (by kernel_rfl) (by kernel_rfl) (by kernel_rfl) (fun _ _ _ h => h) (Or.inl ⟨by rfl, ?_⟩) (by assumption) ?_
    rotate_left
    · intro w hSw; (try dsimp only at hSw); go_simp
      try with_reducible rfl
    simp only [Act.put, List.setIfInBounds_toArray, List.set_cons_zero, List.set_cons_succ]
    refine wpAnyH_ready (rs := [3]) (by kernel_rfl) (by simp) ?_
    refine AllReadyH.cons rfl (fun K' hK' => ?_) AllReadyH.nil
    go_simp
    go_wp2_with fail
    refine (HAl.out _).mono ?_
    rintro e w6 ⟨r6, rfl, i6, b6⟩
    have s5 : (w2.drewN (d + 1)).heap.size = B + 2 := SZ2.out
    rw [s5] at i6 b6
    have B6 : Below (B + 2) w2 w6 := (below_drewN (Below.refl _ _) (d + 1)).trans b6
    obtain ⟨ra6, rc6, rfl⟩ := i6.len_eq
    have HM6 := Lib.hid (HMi.out w6 B6 _ i6)
    have B6 := Lib.hid B6
    refine hK'.out _ _ (KEEP.out _ B6.out) (fun hHeld => ?_)
    clear hK' K' i6 b6 s5
    refine wpAnyH_ready (rs := [9]) (by kernel_rfl) (by simp) ?_
    refine AllReadyH.cons rfl (fun K' hK' => ?_) AllReadyH.nil
    go_simp
    go_wp2_with fail
    refine HM6.out.mono ?_
    rintro e w7 ⟨r7, rfl, i7, b7⟩
    have B7 : Hid (Below (B + 2) w2 w7) := B6.out.trans (b7.mono (by have := B6.out.size; have := SZ2.out; omega))
    have I7 : Hid (IntsAt w7 r7 (outY (N : Int) xss (k : Int))) := i7.at
    obtain ⟨ra7, rc7, rfl, -, -⟩ := i7.at.shape
    obtain ⟨l7, hl7⟩ : ∃ l, (outY (N : Int) xss (k : Int)).length = l := ⟨_, rfl⟩
    have HP7 := Lib.hid (HPt0.out w7 B7.out _ I7.out)
    rw [hl7] at HP7 ⊢
    refine hK'.out _ _ (KEEP.out _ B7.out) (fun hHeld => ?_)
    clear hK' K' i7 b7 hl7 I7
    refine wpAnyH_ready (rs := [10]) (by kernel_rfl) (by simp) ?_
    refine AllReadyH.cons rfl (fun K' hK' => ?_) AllReadyH.nil
    go_simp
    go_wp2_with fail
    have SZ : B + 1 < w7.heap.size := by have := B7.out.size; have := SZ2.out; omega
    have R5 : w7.heap[B + 1]? = some (.cells #[.int .i64 0, .slice none 0 0] 24 (0, 0)) := (B7.out.block (B + 1) (by omega)).trans HR2.out
    have B5 : Below B w w7 := B2.out.trans (B7.out.mono (by omega))
    have HPt := HP7.out
    refine HPt.mono ?_
    rintro e w9 ⟨z, rfl, hL, hO⟩
    have RX : w9.heap[B + 1]? = some (.cells #[.int .i64 0, .slice none 0 0] 24 (0, 0)) := (hO.block (B + 1) SZ).trans R5
    have BX : Hid (Below B w w9) := B5.trans (hO.mono (by omega))
    obtain ⟨ay, ly, cy, rfl⟩ : ∃ a l c, z = .slice a l c := by obtain ⟨a, c, e, -⟩ := hL.at.shape; exact ⟨a, _, c, e⟩
    obtain ⟨d0, d1, f0, f1⟩ := cells2 w9 (B + 1) _ _ _ RX
    have LX := Lib.hid hL
    have RX := Lib.hid RX
    have B9 : Hid (Below (B + 2) w2 w9) := B7.out.trans (hO.mono (by have := B7.out.size; have := SZ2.out; omega))
    have SZ := Lib.hid SZ
    clear hL hO HPt R5 B5
    refine hK'.out _ _ (KEEP.out _ B9.out) (fun hHeld => ?_)
    clear hK' K'
    refine wpAnyH_take (i := 11) (oi := { dst := some 24, op := Op.extract (Operand.tmp 23) 0, type := 24, pos := "l10_designs.go:261", after := #[{ on := 10, ground := Ground.data }], guard := none }) (v := ?_) rfl (by kernel_rfl) (by kernel_rfl) (by kernel_rfl) (fun _ _ _ h => h) (Or.inl ⟨by rfl, ?_⟩) (by assumption) ?_
    rotate_left
    · intro w hSw; (try dsimp only at hSw); go_simp
      try with_reducible rfl
    simp only [Act.put, List.setIfInBounds_toArray, List.set_cons_zero, List.set_cons_succ]
    refine wpAnyH_take (i := 12) (oi := { dst := some 25, op := Op.extract (Operand.tmp 23) 1, type := 2, pos := "l10_designs.go:261", after := #[{ on := 10, ground := Ground.data }], guard := none }) (v := ?_) rfl (by kernel_rfl) (by kernel_rfl) (by kernel_rfl) (fun _ _ _ h => h) (Or.inl ⟨by rfl, ?_⟩) (by assumption) ?_
    rotate_left
    · intro w hSw; (try dsimp only at hSw); go_simp
      try with_reducible rfl
    simp only [Act.put, List.setIfInBounds_toArray, List.set_cons_zero, List.set_cons_succ]
    refine wpAnyH_ready (rs := [13]) (by kernel_rfl) (by simp) ?_
    refine AllReadyH.cons rfl (fun K' hK' => ?_) AllReadyH.nil
    go_simp
    refine hK'.out _ _ (by
      obtain ⟨k0, k1, k2⟩ := KEEP.out _ B9.out
      have hg : g1 ≠ B + 1 := by omega
      exact ⟨by rw [World.cell?_setCell_far _ _ _ _ (by show B + 1 ≠ B; omega), World.cell?_setCell_far _ _ _ _ (by show B + 1 ≠ B; omega)]; exact k0, by rw [World.cell?_setCell_far _ _ _ _ (by show B + 1 ≠ B; omega), World.cell?_setCell_far _ _ _ _ (by show B + 1 ≠ B; omega)]; exact k1, by rw [World.cell?_setCell_far _ _ _ _ (fun e => hg e.symm), World.cell?_setCell_far _ _ _ _ (fun e => hg e.symm)]; exact k2⟩) (fun hHeld => ?_)
    clear hK' K'
    refine wpAnyH_take (i := 14) (oi := { dst := some 5, op := Op.assign (Operand.tmp 25), type := 2, pos := "l10_designs.go:261", after := #[{ on := 12, ground := Ground.data }, { on := 13, ground := Ground.chain }, { on := 0, ground := Ground.phase }, { on := 1, ground := Ground.phase }, { on := 2, ground := Ground.phase }, { on := 3, ground := Ground.phase }, { on := 4, ground := Ground.phase }, { on := 5, ground := Ground.phase }, { on := 6, ground := Ground.phase }, { on := 7, ground := Ground.phase }, { on := 8, ground := Ground.phase }, { on := 9, ground := Ground.phase }, { on := 10, ground := Ground.phase }, { on := 11, ground := Ground.phase }, { on := 12, ground := Ground.phase }, { on := 13, ground := Ground.phase }], guard := none }) (v := ?_) rfl (by kernel_rfl) (by kernel_rfl) (by kernel_rfl) (fun _ _ _ h => h) (Or.inl ⟨by rfl, ?_⟩) (by assumption) ?_
    rotate_left
    · intro w hSw; (try dsimp only at hSw); go_simp
      try with_reducible rfl
    simp only [Act.put, List.setIfInBounds_toArray, List.set_cons_zero, List.set_cons_succ]
    refine wpAnyH_done (by kernel_rfl) ?_ _
    clear hHeld
    go_wp2
    have SZ := SZ.out
    refine endsD (fn := Tryd.f16) (i := 4) (j := 5) rfl w9 (B + 1) _ _ RX.out _ _ _ _ ⟨.slice ay ly cy, by rw [HQ.out.1, HQ.out.2.1]; rfl, ?_, ?_⟩ _ rfl rfl
    · rw [HQ.out.2.2]
      exact (RowsL.off2 LX.out (show B + 1 < w7.heap.size from SZ) _ _).mono (by have := HB.out; omega) (by simp [World.setCell]) (Nat.le_refl _)
    · rw [HB.out]
      exact (BX.out.setCell (p := ⟨B + 1, 0, none⟩) (Nat.le_succ B) _).setCell (p := ⟨B + 1, 1, none⟩) (Nat.le_succ B) _
  · obtain ⟨v1, v2, v3, v4⟩ := dp_ask (outY n xss idx) hk
    obtain ⟨cd, hcd⟩ : ∃ cd, askC n xss idx = cd := ⟨_, rfl⟩
    rw [hcd] at v3 v4 HO
    have V : Hid (dpN n xss idx (outY n xss idx) = 0 ∧ dpL n xss idx (outY n xss idx) = [] ∧ dpC n xss idx (outY n xss idx) = cd) := ⟨v1, v2, v3⟩
    have t1 : (cd != 0) = true := by simpa using v4
    have hk := Lib.hid hk
    clear v1 v2 v3 v4 hcd hv hx K0 A1 b1 A2 R2 b12 b2 hv2 c0 c1
    go_enter Tryd.func16, Tryd.ntmps16
    go_wp2_with fail
    try rw [hw1]
    try rw [z1]
    try rw [hw2]
    refine HO.out.mono ?_
    rintro e w3 ⟨rfl, d, rfl⟩
    obtain ⟨d0, d1, f0, f1⟩ := cells2 (w2.drewN d) (B + 1) _ _ _ (show (w2.drewN d).heap[B + 1]? = _ from HR2.out)
    go_wp2
    exact EN.out (w2.drewN d) cd HR2.out (below_drewN B2.out d) V.out _ rfl rfl

theorem skL_tot (idx : Int) (F : Nat → List Int) (h : ∀ i, (F i).length ≤ 32) : ∀ k, tot (skL idx F k) ≤ k * 32
  | 0 => Nat.le_refl _
  | k + 1 => by
    have := skL_tot idx F h k
    have hk := h k
    rw [skL, tot_append]
    split
    · rw [tot_nil]; omega
    · rw [tot_cons, tot_nil]; omega
theorem tot_dpL (n : Int) (xss : List (List Int)) (idx : Int) (ys : List Int) (hy : desB n xss = true → inIdx idx xss.length = true → ys.length ≤ 32) : tot (dpL n xss idx ys) ≤ 5000 := by
  cases hp : desB n xss with
  | false => rw [(dp_no idx ys hp).2.1]; exact Nat.zero_le _
  | true =>
    cases h2 : inIdx idx xss.length with
    | false => rw [(dp_range ys hp h2).2.1]; exact Nat.zero_le _
    | true =>
      have y32 := hy hp h2
      have m128 := (of_desB hp).2.2.1
      by_cases c : ys.length = 0
      · rw [(dp_empty hp h2 c).2.1]; exact Nat.zero_le _
      · rw [(dp_ok hp h2 c).2.1]
        have a := (dxL_tot (skL idx (plF xss ys) xss.length)).1
        have b := skL_tot idx (plF xss ys) (fun i => by unfold plF; exact Nat.le_trans (fls_len _ _) y32) xss.length
        omega
theorem totDerivedDesign (n : Int) (xss : List (List Int)) (idx : Int) : tot (dpL n xss idx (insY xss idx)) ≤ 5000 := tot_dpL n xss idx _ fun hp h2 => by
  have D := of_desB hp
  obtain ⟨k0, k1⟩ := of_decide_eq_true h2
  unfold insY
  exact blk_len D.2.1 (D.2.2.2 idx.toNat (by omega)).1.2
theorem totResidualDesign (n : Int) (xss : List (List Int)) (idx : Int) : tot (dpL n xss idx (outY n xss idx)) ≤ 5000 := tot_dpL n xss idx _ fun hp h2 => by
  have D := of_desB hp
  unfold outY
  have := fls_len n.toNat (fun i => !decide ((i : Int) ∈ xss.getD idx.toNat []))
  have := D.2.1
  omega
end
end Go.Proofs.YtanfodbpgpfjmaaDoor
