/- Permutations: the model's functions ValidPermutation, IdentityPermutation, Compose, InvertPermutation, PowerPermutation. -/
import Derived.Test.YtcgmencdadinbaaPm
import Derived.Test.YtcgmencdadinbaaPv
namespace Go.Proofs.Ytcgmencdadinbaa
open Go.RowKit
set_option linter.unusedVariables false

theorem sValidPermutation (xs : List Int) (hx : SmallL xs) (W : World) (v : Value) (hv : IntsC W v xs) :
    Calls Try.prog 17 #[v] W fun e w' => e = .returned (.bool (ValidPermutation_0 xs)) ∧ Below W.heap.size W w' := by
  have H := Lib.hid (sok W v xs hv)
  clear hv
  unfold ValidPermutation_0
  go_enter Try.func17, Try.ntmps17
  go_wp2_with fail
  refine H.out.mono ?_
  rintro e w1 ⟨rfl, k, rfl⟩
  go_wp2
  go_ret
  exact ⟨rfl, Go.below_drewN (Below.refl _ _) k⟩

theorem sIdentityPermutation (n : Int) (hn : I64 n) (W : World) :
    Calls Try.prog 21 #[.int .i64 n] W fun e w' => ∃ r, e = .returned (.tuple #[r, .int .i64 (IdentityPermutation_1 n)]) ∧ IntsAt w' r (IdentityPermutation_0 n) ∧ Below W.heap.size W w' := by
  by_cases h : 0 ≤ n ∧ n ≤ 32
  · have V := Lib.hid (Identity_in h)
    have HI := Lib.hid (fun W : World => in_yes n 0 32 W h.1 h.2)
    obtain ⟨k, rfl⟩ : ∃ k : Nat, n = k := ⟨n.toNat, by omega⟩
    rw [Int.toNat_natCast] at V
    have HO := Lib.hid (fun W : World => sOne W k (by omega))
    clear h
    go_enter Try.func21, Try.ntmps21
    go_wp2_with (first | (go_at_call 57; refine (HI.out _).mono ?_; rintro e w' ⟨rfl, rfl⟩) | (go_at_call 58; refine (HO.out _).mono ?_; rintro e w' ⟨r, rfl, i1, b1⟩; have I1 := Lib.hid i1; have B1 := Lib.hid b1; clear i1 b1))
    go_ret2
    exact ⟨_, by rw [V.out.2]; rfl, by rw [V.out.1]; exact I1.out.at, B1.out⟩
  · have V := Lib.hid (Identity_out h)
    have HI := Lib.hid (fun W : World => in_no n 0 32 W (by omega))
    clear h
    go_enter Try.func21, Try.ntmps21
    go_wp2_with (go_at_call 57; refine (HI.out _).mono ?_; rintro e w' ⟨rfl, rfl⟩)
    go_ret2
    exact ⟨_, by rw [V.out.2]; rfl, by rw [V.out.1]; exact nilAt _, Below.refl _ _⟩

theorem IntsC.shape {w : World} {v : Value} {xs : List Int} (h : IntsC w v xs) : ∃ a cap, v = .slice a xs.length cap := by
  obtain ⟨a, cap, e, _⟩ := h.part
  exact ⟨a, cap, e⟩

set_option maxHeartbeats 1000000 in
theorem sCompose (xs ys : List Int) (hx : SmallL xs) (hy : SmallL ys) (W : World) (u v : Value) (hu : IntsC W u xs) (hv : IntsC W v ys) :
    Calls Try.prog 25 #[u, v] W fun e w' => ∃ r, e = .returned (.tuple #[r, .int .i64 (Compose_1 xs ys)]) ∧ IntsAt w' r (Compose_0 xs ys) ∧ Below W.heap.size W w' := by
  have HX := Lib.hid (sok W u xs hu)
  have HY := Lib.hid (fun k => sok (W.drewN k) v ys (hv.drewN k))
  cases hp : pmB xs with
  | false =>
    have V := Lib.hid (Compose_bad (ys := ys) (.inl hp))
    rw [hp] at HX
    clear hp hu hv HY
    go_enter Try.func25, Try.ntmps25
    go_wp2_with (go_at_call 56; refine HX.out.mono ?_; rintro e w1 ⟨rfl, k, rfl⟩)
    go_ret2
    exact ⟨_, by rw [V.out.2]; rfl, by rw [V.out.1]; exact nilAt _, Go.below_drewN (Below.refl _ _) k⟩
  | true =>
    rw [hp] at HX
    cases hq : pmB ys with
    | false =>
      have V := Lib.hid (Compose_bad (xs := xs) (.inr hq))
      simp only [hq] at HY
      clear hp hq hu hv
      go_enter Try.func25, Try.ntmps25
      go_wp2_with fail
      refine HX.out.mono ?_
      rintro e w1 ⟨rfl, k, rfl⟩
      go_wp2_with fail
      refine (HY.out _).mono ?_
      rintro e w2 ⟨rfl, k2, rfl⟩
      go_wp2
      go_ret2
      exact ⟨_, by rw [V.out.2]; rfl, by rw [V.out.1]; exact nilAt _, Go.below_drewN (Below.refl _ _) (k + k2)⟩
    | true =>
      simp only [hq] at HY
      have T := Lib.hid (fun k k2 (hl : xs.length = ys.length) => sTimes (W.drewN (k + k2)) u v xs ys (hu.1.drewN (k + k2)) (hv.1.drewN (k + k2)) (fun i hi => by have := (of_pmB hp).2 i hi; unfold okPm at this; omega) (by have := (of_pmB hp).1; omega))
      obtain ⟨a, ca, rfl⟩ := hu.shape
      obtain ⟨b, cb, rfl⟩ := hv.shape
      by_cases hl : xs.length = ys.length
      · have V := Lib.hid (Compose_ok hp hq hl)
        have T2 := Lib.hid (fun k k2 => T.out k k2 hl)
        have tl : ((xs.length : Int) != (ys.length : Int)) = false := by simp [hl]
        have tl' : (xs.length != ys.length) = false := by simp [hl]
        clear hp hq hu hv T hl
        go_enter Try.func25, Try.ntmps25
        go_wp2_with fail
        refine HX.out.mono ?_
        rintro e w1 ⟨rfl, k, rfl⟩
        go_wp2_with fail
        refine (HY.out _).mono ?_
        rintro e w2 ⟨rfl, k2, rfl⟩
        go_wp2_with fail
        refine (T2.out _ _).mono ?_
        rintro e w3 ⟨r, rfl, i3, b3⟩
        have I3 := Lib.hid i3
        have B3 := Lib.hid b3
        clear i3 b3
        go_wp2
        go_ret2
        exact ⟨_, by rw [V.out.2]; rfl, by rw [V.out.1]; exact I3.out.at, t_chain (Go.below_drewN (Below.refl _ _) (k + k2)) B3.out⟩
      · have V := Lib.hid (Compose_ne hp hq hl)
        have tl : ((xs.length : Int) != (ys.length : Int)) = true := by simp; omega
        have tl' : (xs.length != ys.length) = true := by simp [hl]
        clear hp hq hu hv T hl
        go_enter Try.func25, Try.ntmps25
        go_wp2_with fail
        refine HX.out.mono ?_
        rintro e w1 ⟨rfl, k, rfl⟩
        go_wp2_with fail
        refine (HY.out _).mono ?_
        rintro e w2 ⟨rfl, k2, rfl⟩
        go_wp2
        go_ret2
        exact ⟨_, by rw [V.out.2]; rfl, by rw [V.out.1]; exact nilAt _, Go.below_drewN (Below.refl _ _) (k + k2)⟩

theorem sInvertPermutation (xs : List Int) (hx : SmallL xs) (W : World) (u : Value) (hu : IntsC W u xs) :
    Calls Try.prog 27 #[u] W fun e w' => ∃ r, e = .returned (.tuple #[r, .int .i64 (InvertPermutation_1 xs)]) ∧ IntsAt w' r (InvertPermutation_0 xs) ∧ Below W.heap.size W w' := by
  have HX := Lib.hid (sok W u xs hu)
  cases hp : pmB xs with
  | false =>
    have V := Lib.hid (Invert_bad hp)
    rw [hp] at HX
    clear hp hu
    go_enter Try.func27, Try.ntmps27
    go_wp2_with (go_at_call 56; refine HX.out.mono ?_; rintro e w1 ⟨rfl, k, rfl⟩)
    go_ret2
    exact ⟨_, by rw [V.out.2]; rfl, by rw [V.out.1]; exact nilAt _, Go.below_drewN (Below.refl _ _) k⟩
  | true =>
    have V := Lib.hid (Invert_ok hp)
    rw [hp] at HX
    have T := Lib.hid (fun k => sBack (W.drewN k) u xs (hu.1.drewN k) (fun i hi => by have := (of_pmB hp).2 i hi; unfold okPm at this; omega) (by have := (of_pmB hp).1; omega))
    clear hp hu
    go_enter Try.func27, Try.ntmps27
    go_wp2_with fail
    refine HX.out.mono ?_
    rintro e w1 ⟨rfl, k, rfl⟩
    go_wp2_with fail
    refine (T.out _).mono ?_
    rintro e w3 ⟨r, rfl, i3, b3⟩
    have I3 := Lib.hid i3
    have B3 := Lib.hid b3
    clear i3 b3
    go_wp2
    go_ret2
    exact ⟨_, by rw [V.out.2]; rfl, by rw [V.out.1]; exact I3.out.at, t_chain (Go.below_drewN (Below.refl _ _) k) B3.out⟩
end Go.Proofs.Ytcgmencdadinbaa
