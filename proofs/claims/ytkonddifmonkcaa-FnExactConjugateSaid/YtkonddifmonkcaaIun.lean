/- UnrankPermutation: the program. -/
import Derived.Test.YtkonddifmonkcaaUnm
import Derived.Test.YtkonddifmonkcaaIrk
namespace Go.Proofs.Ytkonddifmonkcaa
open Go.RowKit
set_option linter.unusedVariables false

set_option maxRecDepth 100000 in
set_option maxHeartbeats 4000000 in
theorem iUnrankPermutation (n r : Int) (hn : I64 n) (hr : I64 r) (W : World) :
    Calls Try.prog 66 #[.int .i64 n, .int .i64 r] W fun e w' => ∃ u, e = .returned (.tuple #[u, .int .i64 (UnrankPermutation_1 n r)]) ∧ Ints w' W.heap.size u (UnrankPermutation_0 n r) ∧ Below W.heap.size W w' := by
  by_cases c1 : n < 0
  · have V := Lib.hid (Unr_out (n := n) (r := r) (by omega))
    have g1 : decide (n < 0) = true := by simpa using c1
    clear c1
    go_enter Try.func66, Try.ntmps66
    go_wp2
    go_ret2
    exact ⟨_, by rw [V.out.2]; rfl, by rw [V.out.1]; exact nilI _ _, Below.refl _ _⟩
  have g1 : decide (n < 0) = false := by simpa using c1
  by_cases c2 : 12 < n
  · have V := Lib.hid (Unr_out (n := n) (r := r) (by omega))
    have g2 : decide (12 < n) = true := by simpa using c2
    clear c1 c2
    go_enter Try.func66, Try.ntmps66
    go_wp2
    go_ret2
    exact ⟨_, by rw [V.out.2]; rfl, by rw [V.out.1]; exact nilI _ _, Below.refl _ _⟩
  have g2 : decide (12 < n) = false := by simpa using c2
  by_cases c3 : r < 0
  · have V := Lib.hid (Unr_out (n := n) (r := r) (by omega))
    have g3 : decide (r < 0) = true := by simpa using c3
    clear c1 c2 c3
    go_enter Try.func66, Try.ntmps66
    go_wp2
    go_ret2
    exact ⟨_, by rw [V.out.2]; rfl, by rw [V.out.1]; exact nilI _ _, Below.refl _ _⟩
  have g3 : decide (r < 0) = false := by simpa using c3
  obtain ⟨m, rfl⟩ : ∃ m : Nat, n = m := ⟨n.toNat, by omega⟩
  obtain ⟨q, rfl⟩ : ∃ q : Nat, r = q := ⟨r.toNat, by omega⟩
  have m12 : m ≤ 12 := by omega
  unfold I64 at hr
  have VO := Lib.hid (fun k => Unr_ok (n := m) (r := q) m12 k)
  have VF := Lib.hid (fun k => Unr_far (n := m) (r := q) k)
  have DM : Hid (∀ i, i < m → dgt m q i = q / fct (m - 1 - i) % (m - i)) := fun i hi => rfl
  have DP : Hid (∀ i, i < m → q / fct (m - 1 - i) / (m - i) = q / fct (m - i)) := fun i hi => dgt_prog hi
  have F0 : Hid (q / fct (m - m) = q) := by unfold Hid; rw [Nat.sub_self, fct, Nat.div_one]
  have FP : Hid (∀ k, 1 ≤ fct k) := fct_pos
  have UO : Hid (∀ i, i < m → unr m q i < 12 ∧ stU m q i (unr m q i) = 1 ∧ sumU (stU m q i) (unr m q i) = (dgt m q i : Nat)) := fun i hi => unr_ok m12 hi
  have SO : Hid (∀ i, i ≤ m → U01 (stU m q i) ∧ sumU (stU m q i) 12 = ((m - i : Nat) : Int)) := fun i hi => stU_ok m12 i hi
  have DL : Hid (∀ i, i < m → dgt m q i < m - i) := fun i hi => dgt_lt m q i hi
  have SU : Hid (∀ i, stU m q (i + 1) = updI (stU m q i) (unr m q i) (stU m q i (unr m q i) + -1)) := fun i => rfl
  have S0 : Hid (lt1 m = stU m q 0) := rfl
  have HU := Lib.hid (fun W : World => iunused m m12 W)
  have HT := Lib.hid (fun W : World => Fn.stores_new W (fw (lt1 m)))
  have hmk := fun W : World => run_make_row' (P := Try.prog) 35 2 (.int .i64 0) 8 Try.underlying35 Try.infoInt rfl .i64 .i64 m (by omega) (by omega) W
  clear c1 c2 c3 hn
  go_enter Try.func66, Try.ntmps66
  go_wp2
  have RO := Lib.hid (made_ia W 2 m)
  have BO : Hid (Below W.heap.size W (W.alloc (.cells (madeCells #[.int .i64 0] m) 2))) := (Below.refl _ _).alloc (Nat.le_refl _) _
  have ZO : (W.alloc (.cells (madeCells #[.int .i64 0] m) 2)).heap.size = W.heap.size + 1 := World.size_alloc ..
  obtain ⟨wo, hwo⟩ : ∃ wo, W.alloc (.cells (madeCells #[.int .i64 0] m) 2) = wo := ⟨_, rfl⟩
  rw [hwo] at RO BO ZO ⊢
  obtain ⟨B, hB⟩ : ∃ B, W.heap.size = B := ⟨_, rfl⟩
  rw [hB] at RO BO ZO ⊢
  have HE := Lib.hid hB
  clear hwo hB hmk
  go_loopw [7, 8] (fun rv i wr => ∃ (j : Nat) (f : Nat → Int), j ≤ m ∧ i = .int .i64 ((j : Int) - 1) ∧ rv = .int .i64 (q / fct (m - j) : Nat) ∧ Hid (Ia wr 2 B m f) ∧ Hid (∀ k, j ≤ k → k < m → f k = (dgt m q k : Nat)) ∧ Hid (Below B W wr) ∧ B + 1 ≤ wr.heap.size) (fun _ i _ => (intOf i + 1).toNat)
  case atStart => exact ⟨m, _, Nat.le_refl _, by go_num, by rw [F0.out], RO, fun k h1 h2 => by omega, BO, by omega⟩
  case round =>
    obtain ⟨j, f, hj, rfl, rfl, hI, hD, hBl, hz⟩ := hrel
    cases j with
    | succ t =>
      have e1 : ((t + 1 : Nat) : Int) - 1 = (t : Int) := by omega
      have e2 : m - (t + 1) = m - 1 - t := by omega
      rw [e1, e2]
      have dm := DM.out t (by omega)
      have dp := DP.out t (by omega)
      have dl := DL.out t (by omega)
      obtain ⟨p, hp⟩ : ∃ p, m - t = p := ⟨_, rfl⟩
      obtain ⟨R, hR⟩ : ∃ R, q / fct (m - 1 - t) = R := ⟨_, rfl⟩
      have Rq : R ≤ q := by rw [← hR]; exact Nat.div_le_self _ _
      rw [hp, hR] at dm dp
      rw [hp] at dl
      rw [hR]
      have p1 : 1 ≤ p := by omega
      have mt : (m : Int) - (t : Int) = (p : Int) := by omega
      obtain ⟨d, hd⟩ : ∃ d, dgt m q t = d := ⟨_, rfl⟩
      obtain ⟨Q, hQ⟩ : ∃ Q, q / fct p = Q := ⟨_, rfl⟩
      have Qq : Q ≤ q := by rw [← hQ]; exact Nat.div_le_self _ _
      rw [hd] at dm dl
      rw [hQ] at dp
      have rm : (R : Int) % (p : Int) = (d : Int) := by rw [dm]; exact (Int.natCast_emod R p).symm
      have rq : (R : Int) / (p : Int) = (Q : Int) := by rw [← dp]; exact (Int.natCast_ediv R p).symm
      have rm' : (R : Int).tmod (p : Int) = (d : Int) := by rw [Int.tmod_eq_emod_of_nonneg (by omega)]; exact rm
      have rq' : (R : Int).tdiv (p : Int) = (Q : Int) := by rw [Int.tdiv_eq_ediv_of_nonneg (by omega)]; exact rq
      have wq : wrap64 (Q : Int) = (Q : Int) := by unfold wrap64; omega
      have pz : ((p : Int) == 0) = false := by simp; omega
      have pz' : (p == 0) = false := by simp; omega
      have co := hI.out.cell t (by omega)
      have cf := hI.out.frozen t
      have F1 : Hid (Ia (wr.setCell ⟨B, t, none⟩ (.int .i64 d)) 2 B m (updI f t d)) := hI.out.set t d
      have D1 : Hid (∀ k, t ≤ k → k < m → updI f t d k = (dgt m q k : Nat)) := fun k h1 h2 => by
        by_cases e : k = t
        · rw [e, updI_same, hd]
        · rw [updI_ne _ _ _ _ e]; exact hD.out k (by omega) h2
      have B1 : Hid (Below B W (wr.setCell ⟨B, t, none⟩ (.int .i64 d))) := hBl.out.setCell (Nat.le_refl _) _
      have z1 : B + 1 ≤ (wr.setCell ⟨B, t, none⟩ (.int .i64 d)).heap.size := by simpa [World.setCell] using hz
      have t0 : (0 : Int) ≤ (t : Int) := by omega
      have t1 : (t : Int) < (m : Int) := by omega
      have w3 := IntWalk.i64_in ((t : Int) - 1) (by omega)
      have k1 : decide ((0 : Int) ≤ (t : Int)) = true := decide_eq_true t0
      have HQ2 := Lib.hid hQ
      have HP2 := Lib.hid hp
      clear hp hR hd hQ dm dp e1 e2
      have WQ := Lib.hid wq
      go_wp2
      go_roundw
      case rel => exact ⟨t, updI f t d, by omega, by go_num, by rw [HP2.out, HQ2.out, WQ.out], F1, D1, B1, z1⟩
      case measure => simp only [intOf]; omega
    | zero =>
      rw [Nat.sub_zero]
      have fm := FP.out m
      by_cases far : fct m ≤ q
      · have V := Lib.hid (VF.out far)
        have R1 : 1 ≤ q / fct m := Nat.div_pos far fm
        obtain ⟨R, hR⟩ : ∃ R, q / fct m = R := ⟨_, rfl⟩
        rw [hR] at R1 ⊢
        have t1 : ((R : Int) != 0) = true := by simp; omega
        have t1' : (R != 0) = true := by simp; omega
        clear hR far
        go_wp2
        go_ret2
        exact ⟨_, by rw [V.out.2]; rfl, by rw [V.out.1]; exact nilI _ _, by rw [HE.out]; exact hBl.out⟩
      · have V := Lib.hid (VO.out (by omega))
        have R0 : q / fct m = 0 := Nat.div_eq_of_lt (by omega)
        rw [R0]
        have D2 : Hid (∀ k, k < m → f k = (dgt m q k : Nat)) := fun k hk => hD.out k (Nat.zero_le _) hk
        clear far R0 hD
        go_wp2_with fail
        refine (HU.out wr).mono ?_
        rintro e w2 ⟨rfl, b2⟩
        have B2 := Lib.hid (hBl.out.trans (b2.mono (by omega)))
        have I2 : Hid (Ia w2 2 B m f) := hI.out.below b2 (by omega)
        have s2 := b2.size
        have ht := HT.out w2
        clear b2
        go_wp2
        obtain ⟨g, hg⟩ : ∃ g, w2.heap.size = g := ⟨_, rfl⟩
        have T0 : Hid (Fn (w2.alloc (.cells (iar 13 (fw (lt1 m))) 89)) g (stU m q 0)) := by
          rw [← S0.out, ← hg]; exact heap_alloc_new _ _
        have al : Below w2.heap.size w2 (w2.alloc (.cells (iar 13 (fw (lt1 m))) 89)) := (Below.refl _ _).alloc (Nat.le_refl _) _
        have I3 : Hid (Ia (w2.alloc (.cells (iar 13 (fw (lt1 m))) 89)) 2 B m f) := I2.out.below al (by omega)
        have B3 : Hid (Below B W (w2.alloc (.cells (iar 13 (fw (lt1 m))) 89))) := B2.out.trans (al.mono (by omega))
        have gB : B < g := by omega
        rw [hg]
        clear ht hg al
        go_loopw [50] (fun i wi => ∃ (j : Nat) (f : Nat → Int), j ≤ m ∧ i = .int .i64 j ∧ Hid (Ia wi 2 B m f) ∧ Hid (∀ k, k < m → f k = if k < j then ((unr m q k : Nat) : Int) else ((dgt m q k : Nat) : Int)) ∧ Hid (Fn wi g (stU m q j)) ∧ Hid (Below B W wi)) (fun i _ => m - (intOf i).toNat)
        case atStart => exact ⟨0, f, by omega, rfl, I3, fun k hk => by rw [if_neg (by omega)]; exact D2.out k hk, T0, B3⟩
        case round =>
          obtain ⟨j, f, hj, rfl, hI, hD, hF, hBl⟩ := hrel
          by_cases c : j < m
          · have k1 : decide (j < m) = true := by simpa using c
            have cj := hI.out.cell j c
            have fj := hD.out j c
            rw [if_neg (Nat.lt_irrefl _)] at fj
            rw [fj] at cj
            obtain ⟨u1, u2, u3⟩ := UO.out j c
            obtain ⟨so1, so2⟩ := SO.out j hj
            have dl := DL.out j c
            have SEL := Lib.hid (unused wr g (stU m q j) (dgt m q j : Nat) so1 (by omega) (by rw [so2]; omega) hF.out)
            have UQ : Hid (∀ x : Nat, stU m q j x = 1 → sumU (stU m q j) x = (dgt m q j : Nat) → x = unr m q j) := fun x h1 h2 => sel_uniq so1 h1 u2 (by omega)
            have SUj := Lib.hid (SU.out j)
            have BT := Lib.hid so1.bit
            have FU : Hid (fw (stU m q j) = fw (stU m q j)) := rfl
            obtain ⟨d, hd⟩ : ∃ d, dgt m q j = d := ⟨_, rfl⟩
            obtain ⟨x, hx⟩ : ∃ x, unr m q j = x := ⟨_, rfl⟩
            rw [hd] at cj SEL UQ
            rw [hx] at UQ SUj u1
            have j0 : (0 : Int) ≤ (j : Int) := by omega
            have j1 : (j : Int) < (m : Int) := by omega
            have w3 := IntWalk.i64_in ((j : Int) + 1) (by omega)
            have cf := hI.out.frozen j
            have co2 : Hid (∀ W' : World, Ia (W'.setCell ⟨B, j, none⟩ (.int .i64 x)) 2 B m (updI f j x) → (W'.setCell ⟨B, j, none⟩ (.int .i64 x)).cell? ⟨B, j, none⟩ = some (.int .i64 x)) := fun W' h => by have := h.cell j c; rwa [updI_same] at this
            have I4 : Hid (Ia (wr.setCell ⟨B, j, none⟩ (.int .i64 x)) 2 B m (updI f j x)) := hI.out.set j x
            have c4 := co2.out wr I4.out
            have D4 : Hid (∀ k, k < m → updI f j x k = if k < j + 1 then ((unr m q k : Nat) : Int) else ((dgt m q k : Nat) : Int)) := fun k hk => by
              by_cases e : k = j
              · rw [e, updI_same, if_pos (by omega), hx]
              · rw [updI_ne _ _ _ _ e, hD.out k hk]
                by_cases e2 : k < j
                · rw [if_pos e2, if_pos (by omega)]
                · rw [if_neg e2, if_neg (by omega)]
            have F4 : Hid (Fn (wr.setCell ⟨B, j, none⟩ (.int .i64 x)) g (stU m q j)) := (Below.heap_setCell wr ⟨B, j, none⟩ _ g (by show g ≠ B; omega)).trans hF.out
            have B4 : Hid (Below B W (wr.setCell ⟨B, j, none⟩ (.int .i64 x))) := hBl.out.setCell (Nat.le_refl _) _
            have CH := Lib.hid (change x u1 (wr.setCell ⟨B, j, none⟩ (.int .i64 x)) g (stU m q j) (-1) (by omega) BT.out F4.out)
            rw [← SUj.out] at CH
            clear hd hx fj u2 u3 so1 so2 dl co2
            go_wp2_with fail
            refine SEL.out.mono ?_
            rintro e w' ⟨x', rfl, h1, h2, h3, rfl⟩
            obtain rfl : x' = x := UQ.out x' h2 h3
            go_wp2_with fail
            refine CH.out.mono ?_
            rintro e w3 ⟨⟨vv, rfl⟩, f3, b3⟩
            have F5 := Lib.hid f3
            have I5 : Hid (Ia w3 2 B m (updI f j x')) := I4.out.below b3 gB
            have B5 := Lib.hid (B4.out.trans (b3.mono (by omega)))
            clear f3 b3
            go_wp2
            go_roundw
            case rel => exact ⟨j + 1, updI f j x', by omega, by go_num, I5, D4, F5, B5⟩
            case measure => simp [intOf]; omega
          · have k1 : decide (j < m) = false := by simpa using c
            obtain rfl : j = m := by omega
            have R := Lib.hid (hI.out.ints (B := B) (Nat.le_refl _) (by unfold maxLen; omega))
            have ER : Hid ((List.range j).map f = unrL j q) := by
              unfold unrL
              apply List.map_congr_left
              intro k hk
              have hk' := List.mem_range.1 hk
              rw [hD.out k hk', if_pos hk']
            rw [ER.out] at R
            go_wp2
            go_ret2
            exact ⟨_, by rw [V.out.2]; rfl, by rw [V.out.1, HE.out]; exact R.out, by rw [HE.out]; exact hBl.out⟩
end Go.Proofs.Ytkonddifmonkcaa
