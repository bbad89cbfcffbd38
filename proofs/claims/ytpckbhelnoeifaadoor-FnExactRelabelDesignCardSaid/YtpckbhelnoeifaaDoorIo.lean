/- Permutations: the program's IdentityPermutation and InvertPermutation. -/
import Derived.Test.YtpckbhelnoeifaaDoorIv
import Derived.Test.YtpckbhelnoeifaaDoorIa
namespace Go.Proofs.YtpckbhelnoeifaaDoor
open Go.RowKit
set_option linter.unusedVariables false

set_option maxHeartbeats 1000000 in
theorem iimage (w : World) (v : Value) (qs : List Int) (hv : IntsAt w v qs) (t : Nat) (ht : t < qs.length) (hl : qs.length ≤ 100000) :
    Calls Tryd.prog 93 #[v, .int .i64 t] w fun e w' => e = .returned (.int .i64 (qs.getD t 0)) ∧ w' = w := by
  obtain ⟨a, cap, rfl, hc⟩ := part2 hv
  obtain ⟨g, off, rfl, hg, cj⟩ := hc t ht
  obtain ⟨y, hy⟩ : ∃ y, qs.getD t 0 = y := ⟨_, rfl⟩
  rw [hy] at cj ⊢
  obtain ⟨m, hm⟩ : ∃ m, qs.length = m := ⟨_, rfl⟩
  rw [hm] at ht hl ⊢
  have t0 : (0 : Int) ≤ (t : Int) := by omega
  have t1 : (t : Int) < (m : Int) := by omega
  clear hc hg hy hm hv
  go_enter Tryd.func93, Tryd.ntmps93
  go_wp2
  go_ret
  exact ⟨rfl, rfl⟩

set_option maxHeartbeats 1000000 in
theorem imapped (w : World) (u v : Value) (ps qs : List Int) (hu : IntsAt w u ps) (hv : IntsAt w v qs) (hp : ∀ i, i < ps.length → 0 ≤ ps.getD i 0 ∧ ps.getD i 0 < qs.length) (hl : ps.length ≤ 100000) (hq : qs.length ≤ 100000) :
    Calls Tryd.prog 92 #[u, .func (.func 93) #[v] #[]] w fun e w' => ∃ r, e = .returned r ∧ Ints w' w.heap.size r (tms ps qs) ∧ Below w.heap.size w w' := by
  obtain ⟨a, cap, rfl, hc⟩ := part2 hu
  have HC := Lib.hid hc
  have HP := Lib.hid hp
  have HIM : Hid (∀ (W : World) (t : Nat), Below w.heap.size w W → t < qs.length → Calls Tryd.prog 93 #[v, .int .i64 t] W fun e w' => e = .returned (.int .i64 (qs.getD t 0)) ∧ w' = W) := fun W t hb ht => iimage W v qs (hv.below hb (Nat.le_refl _)) t ht hq
  have EN : Hid ((List.range ps.length).map (fun i : Nat => if i < ps.length then qs.getD (ps.getD i 0).toNat 0 else 0) = tms ps qs) := list_of_fn (tms_length ps qs) (fun i hi => by
    rw [if_pos hi]
    simp [tms, List.getD, hi])
  obtain ⟨m, hm⟩ : ∃ m, ps.length = m := ⟨_, rfl⟩
  rw [hm] at HC HP hl EN ⊢
  obtain ⟨k, hk⟩ : ∃ k, qs.length = k := ⟨_, rfl⟩
  rw [hk] at HP HIM
  have hmk := fun W : World => run_make_row' (P := Tryd.prog) 47 2 (.int .i64 0) 8 Tryd.underlying47 Tryd.infoInt rfl .i64 .i64 m (by omega) (by omega) W
  have IA : Hid (∀ W : World, Ia (W.alloc (.cells (madeCells #[.int .i64 0] m) 2)) 2 W.heap.size m (fun i => if i < 0 then qs.getD (ps.getD i 0).toNat 0 else 0)) := fun W => (made_ia W _ m).congr (fun i hi => by rw [if_neg (by omega)])
  clear hc hu hv hp hm hk hq
  go_enter Tryd.func92, Tryd.ntmps92
  go_wp2
  have RO := Lib.hid (IA.out w)
  have BO : Hid (Below w.heap.size w (w.alloc (.cells (madeCells #[.int .i64 0] m) 2))) := (Below.refl _ _).alloc (Nat.le_refl _) _
  obtain ⟨wo, hwo⟩ : ∃ wo, w.alloc (.cells (madeCells #[.int .i64 0] m) 2) = wo := ⟨_, rfl⟩
  rw [hwo] at RO BO ⊢
  obtain ⟨B, hB⟩ : ∃ B, w.heap.size = B := ⟨_, rfl⟩
  rw [hB] at RO BO HC HIM ⊢
  have HE := Lib.hid hB
  clear hwo hB hmk IA
  go_loopw [13] (fun i wr => ∃ (j : Nat), j ≤ m ∧ i = .int .i64 j ∧ Hid (Ia wr 2 B m (fun i => if i < j then qs.getD (ps.getD i 0).toNat 0 else 0)) ∧ Hid (Below B w wr)) (fun i _ => m - (intOf i).toNat)
  case atStart => exact ⟨0, by omega, rfl, RO, BO⟩
  case round =>
    obtain ⟨j, hj, rfl, hI, hBl⟩ := hrel
    by_cases c : j < m
    · have k1 : decide (j < m) = true := by simpa using c
      obtain ⟨g, off, rfl, hg, cj⟩ := HC.out j c
      obtain ⟨p0, p1⟩ := HP.out j c
      obtain ⟨x, hx⟩ : ∃ x, ps.getD j 0 = x := ⟨_, rfl⟩
      rw [hx] at cj p0 p1
      obtain ⟨t, rfl⟩ : ∃ t : Nat, x = t := ⟨x.toNat, by omega⟩
      have cx : wr.cell? ⟨g, off + j, none⟩ = some (.int .i64 t) := by rw [hBl.out.cell (p := ⟨g, off + j, none⟩) hg, cj]
      have HJ := Lib.hid (HIM.out wr t hBl.out (by omega))
      obtain ⟨y, hy⟩ : ∃ y, qs.getD t 0 = y := ⟨_, rfl⟩
      rw [hy] at HJ
      have cell := hI.out.cell j c
      have hf := hI.out.frozen j
      have S1 : Hid (Ia (wr.setCell ⟨B, j, none⟩ (.int .i64 y)) 2 B m (fun i => if i < j + 1 then qs.getD (ps.getD i 0).toNat 0 else 0)) := (hI.out.set j y).congr (fun i hi => by
        unfold updI
        by_cases e : i = j
        · rw [if_pos e, if_pos (by omega), e, hx, Int.toNat_natCast, hy]
        · rw [if_neg e]
          show (if i < j then qs.getD (ps.getD i 0).toNat 0 else 0) = _
          by_cases e2 : i < j
          · rw [if_pos e2, if_pos (by omega)]
          · rw [if_neg e2, if_neg (by omega)])
      have S2 : Hid (Below B w (wr.setCell ⟨B, j, none⟩ (.int .i64 y))) := hBl.out.setCell (Nat.le_refl _) _
      have j0 : (0 : Int) ≤ (j : Int) := by omega
      have j1 : (j : Int) < (m : Int) := by omega
      have w3 := IntWalk.i64_in ((j : Int) + 1) (by omega)
      clear hx cj hg hy p1
      go_wp2_with fail
      refine HJ.out.mono ?_
      rintro e w' ⟨rfl, rfl⟩
      go_wp2
      go_roundw
      case rel => exact ⟨j + 1, by omega, by go_num, S1, S2⟩
      case measure => simp [intOf]; omega
    · have k1 : decide (j < m) = false := by simpa using c
      obtain rfl : j = m := by omega
      have R := Lib.hid (hI.out.ints (B := B) (Nat.le_refl _) (by unfold maxLen; omega))
      rw [EN.out] at R
      go_wp2
      go_ret
      exact ⟨_, rfl, by rw [HE.out]; exact R.out, by rw [HE.out]; exact hBl.out⟩

end Go.Proofs.YtpckbhelnoeifaaDoor
