/- Permutations: the program's mapped, then, Compose. -/
import Derived.Test.YtkenmjdfpieagaaDoorIo
namespace Go.Proofs.YtkenmjdfpieagaaDoor
open Go.RowKit
set_option linter.unusedVariables false

set_option maxHeartbeats 1000000 in
theorem iimage (w : World) (v : Value) (qs : List Int) (hv : IntsAt w v qs) (t : Nat) (ht : t < qs.length) (hl : qs.length ≤ 100000) :
    Calls Tryd.prog 45 #[v, .int .i64 t] w fun e w' => e = .returned (.int .i64 (qs.getD t 0)) ∧ w' = w := by
  obtain ⟨a, cap, rfl, hc⟩ := part2 hv
  obtain ⟨g, off, rfl, hg, cj⟩ := hc t ht
  obtain ⟨y, hy⟩ : ∃ y, qs.getD t 0 = y := ⟨_, rfl⟩
  rw [hy] at cj ⊢
  obtain ⟨m, hm⟩ : ∃ m, qs.length = m := ⟨_, rfl⟩
  rw [hm] at ht hl ⊢
  have t0 : (0 : Int) ≤ (t : Int) := by omega
  have t1 : (t : Int) < (m : Int) := by omega
  clear hc hg hy hm hv
  go_enter Tryd.func45, Tryd.ntmps45
  go_wp2
  go_ret
  exact ⟨rfl, rfl⟩

set_option maxHeartbeats 1000000 in
theorem imapped (w : World) (u v : Value) (ps qs : List Int) (hu : IntsAt w u ps) (hv : IntsAt w v qs) (hp : ∀ i, i < ps.length → 0 ≤ ps.getD i 0 ∧ ps.getD i 0 < qs.length) (hl : ps.length ≤ 100000) (hq : qs.length ≤ 100000) :
    Calls Tryd.prog 44 #[u, .func (.func 45) #[v] #[]] w fun e w' => ∃ r, e = .returned r ∧ Ints w' w.heap.size r (tms ps qs) ∧ Below w.heap.size w w' := by
  obtain ⟨a, cap, rfl, hc⟩ := part2 hu
  have HC := Lib.hid hc
  have HP := Lib.hid hp
  have HIM : Hid (∀ (W : World) (t : Nat), Below w.heap.size w W → t < qs.length → Calls Tryd.prog 45 #[v, .int .i64 t] W fun e w' => e = .returned (.int .i64 (qs.getD t 0)) ∧ w' = W) := fun W t hb ht => iimage W v qs (hv.below hb (Nat.le_refl _)) t ht hq
  have EN : Hid ((List.range ps.length).map (fun i : Nat => if i < ps.length then qs.getD (ps.getD i 0).toNat 0 else 0) = tms ps qs) := list_of_fn (tms_length ps qs) (fun i hi => by
    rw [if_pos hi]
    simp [tms, List.getD, hi])
  obtain ⟨m, hm⟩ : ∃ m, ps.length = m := ⟨_, rfl⟩
  rw [hm] at HC HP hl EN ⊢
  obtain ⟨k, hk⟩ : ∃ k, qs.length = k := ⟨_, rfl⟩
  rw [hk] at HP HIM
  have hmk := fun W : World => run_make_row' (P := Tryd.prog) 24 2 (.int .i64 0) 8 Tryd.underlying24 Tryd.infoInt rfl .i64 .i64 m (by omega) (by omega) W
  have IA : Hid (∀ W : World, Ia (W.alloc (.cells (madeCells #[.int .i64 0] m) 2)) 2 W.heap.size m (fun i => if i < 0 then qs.getD (ps.getD i 0).toNat 0 else 0)) := fun W => (made_ia W _ m).congr (fun i hi => by rw [if_neg (by omega)])
  clear hc hu hv hp hm hk hq
  go_enter Tryd.func44, Tryd.ntmps44
  go_wp2
  have RO := Lib.hid (IA.out w)
  have BO : Hid (Below w.heap.size w (w.alloc (.cells (madeCells #[.int .i64 0] m) 2))) := (Below.refl _ _).alloc (Nat.le_refl _) _
  obtain ⟨wo, hwo⟩ : ∃ wo, w.alloc (.cells (madeCells #[.int .i64 0] m) 2) = wo := ⟨_, rfl⟩
  rw [hwo] at RO BO ⊢
  obtain ⟨B, hB⟩ : ∃ B, w.heap.size = B := ⟨_, rfl⟩
  rw [hB] at RO BO HC HIM ⊢
  have HE := Lib.hid hB
  clear hwo hB hmk IA
  go_loopw [13] (fun i wr => ∃ (j : Nat), j ≤ m ∧ i = .int .i64 j ∧ Hid (Ia wr 2 B m (fun i => if i < j then qs.getD (ps.getD i 0).toNat 0 else 0)) ∧ Hid (Below B w wr)) (fun i _ => m - (intOf i).toNat)
  case atStart => exact ⟨0, by omega, rfl, RO, BO⟩
  case round =>
    obtain ⟨j, hj, rfl, hI, hBl⟩ := hrel
    by_cases c : j < m
    · have k1 : decide (j < m) = true := by simpa using c
      obtain ⟨g, off, rfl, hg, cj⟩ := HC.out j c
      obtain ⟨p0, p1⟩ := HP.out j c
      obtain ⟨x, hx⟩ : ∃ x, ps.getD j 0 = x := ⟨_, rfl⟩
      rw [hx] at cj p0 p1
      obtain ⟨t, rfl⟩ : ∃ t : Nat, x = t := ⟨x.toNat, by omega⟩
      have cx : wr.cell? ⟨g, off + j, none⟩ = some (.int .i64 t) := by rw [hBl.out.cell (p := ⟨g, off + j, none⟩) hg, cj]
      have HJ := Lib.hid (HIM.out wr t hBl.out (by omega))
      obtain ⟨y, hy⟩ : ∃ y, qs.getD t 0 = y := ⟨_, rfl⟩
      rw [hy] at HJ
      have cell := hI.out.cell j c
      have hf := hI.out.frozen j
      have S1 : Hid (Ia (wr.setCell ⟨B, j, none⟩ (.int .i64 y)) 2 B m (fun i => if i < j + 1 then qs.getD (ps.getD i 0).toNat 0 else 0)) := (hI.out.set j y).congr (fun i hi => by
        unfold updI
        by_cases e : i = j
        · rw [if_pos e, if_pos (by omega), e, hx, Int.toNat_natCast, hy]
        · rw [if_neg e]
          show (if i < j then qs.getD (ps.getD i 0).toNat 0 else 0) = _
          by_cases e2 : i < j
          · rw [if_pos e2, if_pos (by omega)]
          · rw [if_neg e2, if_neg (by omega)])
      have S2 : Hid (Below B w (wr.setCell ⟨B, j, none⟩ (.int .i64 y))) := hBl.out.setCell (Nat.le_refl _) _
      have j0 : (0 : Int) ≤ (j : Int) := by omega
      have j1 : (j : Int) < (m : Int) := by omega
      have w3 := IntWalk.i64_in ((j : Int) + 1) (by omega)
      clear hx cj hg hy p1
      go_wp2_with fail
      refine HJ.out.mono ?_
      rintro e w' ⟨rfl, rfl⟩
      go_wp2
      go_roundw
      case rel => exact ⟨j + 1, by omega, by go_num, S1, S2⟩
      case measure => simp [intOf]; omega
    · have k1 : decide (j < m) = false := by simpa using c
      obtain rfl : j = m := by omega
      have R := Lib.hid (hI.out.ints (B := B) (Nat.le_refl _) (by unfold maxLen; omega))
      rw [EN.out] at R
      go_wp2
      go_ret
      exact ⟨_, rfl, by rw [HE.out]; exact R.out, by rw [HE.out]; exact hBl.out⟩

theorem ithen (w : World) (u v : Value) (ps qs : List Int) (hu : IntsAt w u ps) (hv : IntsAt w v qs) (hp : ∀ i, i < ps.length → 0 ≤ ps.getD i 0 ∧ ps.getD i 0 < qs.length) (hl : ps.length ≤ 100000) (hq : qs.length ≤ 100000) :
    Calls Tryd.prog 33 #[u, v] w fun e w' => ∃ r, e = .returned r ∧ Ints w' w.heap.size r (tms ps qs) ∧ Below w.heap.size w w' := by
  have H := Lib.hid (imapped w u v ps qs hu hv hp hl hq)
  have hmf : ∀ (fn : Fn) (first cap : Array Value) (w : World), (Instr.makeFunc fn first cap).run Tryd.prog w = .ok (.func fn first cap) w := fun _ _ _ _ => rfl
  clear hu hv hp hl hq
  go_enter Tryd.func33, Tryd.ntmps33
  go_wp2_with fail
  refine H.out.mono ?_
  rintro e w1 ⟨r, rfl, i1, b1⟩
  have I1 := Lib.hid i1
  have B1 := Lib.hid b1
  clear i1 b1
  go_wp2
  go_ret
  exact ⟨_, rfl, I1.out, B1.out⟩

set_option maxHeartbeats 1000000 in
theorem iCompose (xs ys : List Int) (hx : SmallL xs) (hy : SmallL ys) (W : World) (u v : Value) (hu : IntsC W u xs) (hv : IntsC W v ys) :
    Calls Tryd.prog 11 #[u, v] W fun e w' => ∃ r, e = .returned (.tuple #[r, .int .i64 (Compose_1 xs ys)]) ∧ Ints w' W.heap.size r (Compose_0 xs ys) ∧ Below W.heap.size W w' := by
  have HX := Lib.hid (iok W u xs hu)
  have HY := Lib.hid (fun W' (b : Below W.heap.size W W') => iok W' v ys (hv.below b (Nat.le_refl _)))
  cases hp : pmB xs with
  | false =>
    have V := Lib.hid (Compose_bad (ys := ys) (.inl hp))
    rw [hp] at HX
    clear hp hu hv HY
    go_enter Tryd.func11, Tryd.ntmps11
    go_wp2_with fail
    refine HX.out.mono ?_
    rintro e w1 ⟨rfl, b1⟩
    have B1 := Lib.hid b1
    clear b1
    go_wp2
    go_ret2
    exact ⟨_, by rw [V.out.2]; rfl, by rw [V.out.1]; exact nilI _ _, B1.out⟩
  | true =>
    rw [hp] at HX
    cases hq : pmB ys with
    | false =>
      have V := Lib.hid (Compose_bad (xs := xs) (.inr hq))
      simp only [hq] at HY
      clear hp hq hu hv
      go_enter Tryd.func11, Tryd.ntmps11
      go_wp2_with fail
      refine HX.out.mono ?_
      rintro e w1 ⟨rfl, b1⟩
      have B1 := Lib.hid b1
      have HY1 := Lib.hid (HY.out w1 b1)
      clear b1
      go_wp2_with fail
      refine HY1.out.mono ?_
      rintro e w2 ⟨rfl, b2⟩
      have B2 := Lib.hid (t_chain B1.out b2)
      clear b2
      go_wp2
      go_ret2
      exact ⟨_, by rw [V.out.2]; rfl, by rw [V.out.1]; exact nilI _ _, B2.out⟩
    | true =>
      simp only [hq] at HY
      have T := Lib.hid (fun W' (b : Below W.heap.size W W') (hl : xs.length = ys.length) => ithen W' u v xs ys (hu.1.below b (Nat.le_refl _)) (hv.1.below b (Nat.le_refl _)) (fun i hi => by have := (of_pmB hp).2 i hi; unfold okPm at this; omega) (by have := (of_pmB hp).1; omega) (by have := (of_pmB hq).1; omega))
      obtain ⟨a, ca, rfl⟩ := hu.shape
      obtain ⟨b, cb, rfl⟩ := hv.shape
      by_cases hl : xs.length = ys.length
      · have V := Lib.hid (Compose_ok hp hq hl)
        have T2 := Lib.hid (fun W' b => T.out W' b hl)
        have tl : ((xs.length : Int) != (ys.length : Int)) = false := by simp [hl]
        have tl' : (xs.length != ys.length) = false := by simp [hl]
        clear hp hq hu hv T hl
        go_enter Tryd.func11, Tryd.ntmps11
        go_wp2_with fail
        refine HX.out.mono ?_
        rintro e w1 ⟨rfl, b1⟩
        have B1 := Lib.hid b1
        have HY1 := Lib.hid (HY.out w1 b1)
        clear b1
        go_wp2_with fail
        refine HY1.out.mono ?_
        rintro e w2 ⟨rfl, b2⟩
        have B2 := Lib.hid (t_chain B1.out b2)
        have T3 := Lib.hid (T2.out w2 B2.out)
        clear b2
        go_wp2_with fail
        refine T3.out.mono ?_
        rintro e w3 ⟨r, rfl, i3, b3⟩
        have I3 := Lib.hid (i3.mono (B' := W.heap.size) B2.out.size)
        have B3 := Lib.hid (t_chain B2.out b3)
        clear i3 b3
        go_wp2
        go_ret2
        exact ⟨_, by rw [V.out.2]; rfl, by rw [V.out.1]; exact I3.out, B3.out⟩
      · have V := Lib.hid (Compose_ne hp hq hl)
        have tl : ((xs.length : Int) != (ys.length : Int)) = true := by simp; omega
        have tl' : (xs.length != ys.length) = true := by simp [hl]
        clear hp hq hu hv T hl
        go_enter Tryd.func11, Tryd.ntmps11
        go_wp2_with fail
        refine HX.out.mono ?_
        rintro e w1 ⟨rfl, b1⟩
        have B1 := Lib.hid b1
        have HY1 := Lib.hid (HY.out w1 b1)
        clear b1
        go_wp2_with fail
        refine HY1.out.mono ?_
        rintro e w2 ⟨rfl, b2⟩
        have B2 := Lib.hid (t_chain B1.out b2)
        clear b2
        go_wp2
        go_ret2
        exact ⟨_, by rw [V.out.2]; rfl, by rw [V.out.1]; exact nilI _ _, B2.out⟩
end Go.Proofs.YtkenmjdfpieagaaDoor
