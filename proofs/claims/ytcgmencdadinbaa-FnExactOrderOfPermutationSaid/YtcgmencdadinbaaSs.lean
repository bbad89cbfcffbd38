/- SignOf: the model. -/
import Derived.Test.YtcgmencdadinbaaSc
namespace Go.Proofs.Ytcgmencdadinbaa
open Go.RowKit
set_option linter.unusedVariables false

def sgnL (cs : List (List Int)) : Int := cs.foldl (fun s c => if c.length % 2 = 0 then -s else s) 1
theorem sgnL_snoc (cs : List (List Int)) (c : List Int) : sgnL (cs ++ [c]) = if c.length % 2 = 0 then - sgnL cs else sgnL cs := by simp [sgnL]
theorem sgnL_one : ∀ (cs : List (List Int)), sgnL cs = 1 ∨ sgnL cs = -1 := by
  have : ∀ (cs : List (List Int)) (s : Int), s = 1 ∨ s = -1 → cs.foldl (fun s c => if c.length % 2 = 0 then -s else s) s = 1 ∨ cs.foldl (fun s c => if c.length % 2 = 0 then -s else s) s = -1 := by
    intro cs
    induction cs with
    | nil => intro s h; exact h
    | cons c cs ih =>
      intro s h
      rw [List.foldl_cons]
      refine ih _ ?_
      split <;> omega
  exact fun cs => this cs 1 (.inl rfl)
theorem takeL_getD {xss : List (List Int)} {j : Nat} (h : j < xss.length) : xss.take (j + 1) = xss.take j ++ [xss.getD j []] := by
  rw [List.take_succ_eq_append_getElem h]
  simp [List.getD, List.getElem?_eq_getElem h]
noncomputable def SignOf_0 (xs : List Int) : Int := if pmB xs = true then sgnL (cyclesL xs) else 0
theorem SignOf_bad {xs : List Int} (h : pmB xs = false) : SignOf_0 xs = 0 := by unfold SignOf_0; rw [if_neg (by simp [h])]
theorem SignOf_ok {xs : List Int} (h : pmB xs = true) : SignOf_0 xs = sgnL (cyclesL xs) := by unfold SignOf_0; rw [if_pos h]
/-- The rows of a slice of slices, by their headers. -/
theorem RowsAt.heads {w : World} {v : Value} {xss : List (List Int)} (h : RowsAt w v xss) : ∃ a cap, v = .slice a xss.length cap ∧ ∀ j, j < xss.length → ∃ g off b c, a = some ⟨g, off, none⟩ ∧ w.cell? ⟨g, off + j, none⟩ = some (.slice b (xss.getD j []).length c) := by
  obtain ⟨a, cap, e, hc⟩ := h.shape
  refine ⟨a, cap, e, fun j hj => ?_⟩
  obtain ⟨g, off, u, h1, h2, h3⟩ := hc j hj
  obtain ⟨b, c, e2, _⟩ := part2 h3
  rw [e2] at h2
  exact ⟨g, off, b, c, h1, h2⟩

set_option maxHeartbeats 1000000 in
theorem sSignOf (xs : List Int) (hx : SmallL xs) (W : World) (v : Value) (hv : IntsC W v xs) :
    Calls Try.prog 44 #[v] W fun e w' => e = .returned (.int .i64 (SignOf_0 xs)) ∧ Below W.heap.size W w' := by
  have HX := Lib.hid (sok W v xs hv)
  cases hp : pmB xs with
  | false =>
    have V := Lib.hid (SignOf_bad hp)
    rw [hp] at HX
    clear hp hv
    go_enter Try.func44, Try.ntmps44
    go_wp2_with fail
    refine HX.out.mono ?_
    rintro e w1 ⟨rfl, k, rfl⟩
    go_wp2
    go_ret
    exact ⟨by rw [V.out]; rfl, Go.below_drewN (Below.refl _ _) k⟩
  | true =>
    have V := Lib.hid (SignOf_ok hp)
    rw [hp] at HX
    have T := Lib.hid (fun k => sCycles (W.drewN k) v xs (hv.drewN k) hp)
    have LN := cyclesL_len (perm01 hp)
    have l32 := (of_pmB hp).1
    have TK : Hid (∀ j, j < (cyclesL xs).length → sgnL ((cyclesL xs).take (j + 1)) = if ((cyclesL xs).getD j []).length % 2 = 0 then - sgnL ((cyclesL xs).take j) else sgnL ((cyclesL xs).take j)) := fun j hj => by rw [takeL_getD hj, sgnL_snoc]
    have S1 : Hid (∀ j, sgnL ((cyclesL xs).take j) = 1 ∨ sgnL ((cyclesL xs).take j) = -1) := fun j => sgnL_one _
    have TL : Hid (∀ j, j < (cyclesL xs).length → ((cyclesL xs).getD j []).length ≤ xs.length) := fun j hj => by
      have := tot_mem (cyclesL xs) ((cyclesL xs).getD j []) (by rw [List.getD_eq_getElem?_getD, List.getElem?_eq_getElem hj]; exact List.getElem_mem hj)
      omega
    have TE : Hid ((cyclesL xs).take (cyclesL xs).length = cyclesL xs) := List.take_length
    have TZ : Hid (sgnL ((cyclesL xs).take 0) = 1) := rfl
    obtain ⟨m, hm⟩ : ∃ m, xs.length = m := ⟨_, rfl⟩
    obtain ⟨q, hq⟩ : ∃ q, (cyclesL xs).length = q := ⟨_, rfl⟩
    rw [hm] at LN l32 TL
    rw [hq] at LN TK TL TE
    have HQ := Lib.hid hq
    clear hp hv hm hq
    go_enter Try.func44, Try.ntmps44
    go_wp2_with fail
    refine HX.out.mono ?_
    rintro e w1 ⟨rfl, k, rfl⟩
    go_wp2_with fail
    refine (T.out k).mono ?_
    rintro e w2 ⟨r, rfl, i2, b2⟩
    obtain ⟨a, cap, rfl, hc⟩ := i2.at.heads
    rw [HQ.out] at hc ⊢
    have HC := Lib.hid hc
    have B2 := Lib.hid (t_chain (Go.below_drewN (Below.refl _ W) k) b2)
    clear i2 b2 hc
    go_wp2
    go_loop [4, 5] (fun s i => ∃ j : Nat, j ≤ q ∧ i = .int .i64 j ∧ s = .int .i64 (sgnL ((cyclesL xs).take j))) (fun _ i => q - (intOf i).toNat)
    case atStart => exact ⟨0, by omega, rfl, by rw [TZ.out]⟩
    case round =>
      obtain ⟨j, hj, rfl, rfl⟩ := hrel
      by_cases c : j < q
      · have k1 : decide (j < q) = true := by simpa using c
        have k1' : decide ((j : Int) < (q : Int)) = true := decide_eq_true (by omega)
        obtain ⟨g, off, b, cc, rfl, cj⟩ := HC.out j c
        have TJ := Lib.hid (TK.out j c)
        have lj := TL.out j c
        obtain ⟨n, hn⟩ : ∃ n, ((cyclesL xs).getD j []).length = n := ⟨_, rfl⟩
        obtain ⟨z, hz⟩ : ∃ z, sgnL ((cyclesL xs).take j) = z := ⟨_, rfl⟩
        have sz := S1.out j
        rw [hn] at TJ cj lj
        rw [hz] at TJ sz
        have j0 : (0 : Int) ≤ (j : Int) := by omega
        have j1 : (j : Int) < (q : Int) := by omega
        have w3 := IntWalk.i64_in ((j : Int) + 1) (by omega)
        have w4 := IntWalk.i64_in (-z) (by omega)
        have w5 : IntKind.i64.wrap ((n : Int).tmod 2) = ((n % 2 : Nat) : Int) := by rw [Int.tmod_eq_emod_of_nonneg (by omega)]; exact IntWalk.i64_in _ (by omega)
        rw [hz]
        clear hn hz
        by_cases ev : n % 2 = 0
        · have g2 : ((n % 2 : Nat) == 0) = true := by simpa using ev
          have g2' : (((n % 2 : Nat) : Int) == 0) = true := by simp; omega
          rw [if_pos ev] at TJ
          go_wp2
          go_round
          case rel => exact ⟨j + 1, by omega, by go_num, by rw [TJ.out]⟩
          case measure => simp [intOf]; omega
        · have g2 : ((n % 2 : Nat) == 0) = false := by simpa using ev
          have g2' : (((n % 2 : Nat) : Int) == 0) = false := by simp; omega
          rw [if_neg ev] at TJ
          go_wp2
          go_round
          case rel => exact ⟨j + 1, by omega, by go_num, by rw [TJ.out]⟩
          case measure => simp [intOf]; omega
      · have k1 : decide (j < q) = false := by simpa using c
        have k1' : decide ((j : Int) < (q : Int)) = false := decide_eq_false (by omega)
        obtain rfl : j = q := by omega
        go_wp2
        go_ret
        exact ⟨by rw [V.out, TE.out]; rfl, B2.out⟩
end Go.Proofs.Ytcgmencdadinbaa
