/- ApplySet: the program. -/
import Derived.Test.YtigcgpgkpkoodaaDoorIm
import Derived.Test.YtigcgpgkpkoodaaDoorPr
import Derived.Test.YtigcgpgkpkoodaaDoorPs
namespace Go.Proofs.YtigcgpgkpkoodaaDoor
open Go.RowKit
set_option linter.unusedVariables false

theorem img_fls {ps set : List Int} (hb : ∀ j, j < set.length → ∃ t : Nat, ps.getD (set.getD j 0).toNat 0 = t ∧ t < 32) : ∀ j, j ≤ set.length → img ps (set.take j) = fls 32 (fun n => decide ((n : Int) ∈ tms (set.take j) ps))
  | 0, _ => by
    rw [fls_congr 32 _ (fun _ => false) (fun n _ => by simp [tms])]
    rfl
  | j + 1, h => by
    obtain ⟨t, e, ht⟩ := hb j (by omega)
    rw [img_take (by omega), e, img_fls hb j (by omega), put_fls t _ 32 ht]
    refine fls_congr _ _ _ fun n _ => ?_
    unfold updC
    rw [tms_take (by omega), e]
    by_cases q : n = t
    · rw [if_pos q, q]; simp
    · rw [if_neg q]
      have : ¬ (n : Int) = (t : Int) := by omega
      simp [this]

set_option maxHeartbeats 1000000 in
theorem iimset (w : World) (u v : Value) (ps set : List Int) (hu : IntsAt w u ps) (hv : IntsAt w v set) (hs : ∀ i, i < set.length → 0 ≤ set.getD i 0 ∧ set.getD i 0 < ps.length)
    (hb : ∀ j, j < set.length → ∃ t : Nat, ps.getD (set.getD j 0).toNat 0 = t ∧ t < 32) (hl : set.length ≤ 100000) (hq : ps.length ≤ 100000) :
    Calls Tryd.prog 53 #[u, v] w fun e w' => ∃ s : Nat, e = .returned (.int .u32 s) ∧ PsOut (tms set ps) s ∧ Below w.heap.size w w' := by
  have H := Lib.hid (imapped w v u set ps hv hu hs hl hq)
  have hmf : ∀ (fn : Fn) (first cap : Array Value) (w : World), (Instr.makeFunc fn first cap).run Tryd.prog w = .ok (.func fn first cap) w := fun _ _ _ _ => rfl
  have LN := tms_length set ps
  have GD : Hid (∀ j, j < set.length → ∃ t : Nat, (tms set ps).getD j 0 = t ∧ t < 32) := fun j hj => by
    obtain ⟨t, e, ht⟩ := hb j hj
    refine ⟨t, ?_, ht⟩
    rw [← e]
    simp [tms, List.getD, hj]
  obtain ⟨T, hT⟩ : ∃ T, tms set ps = T := ⟨_, rfl⟩
  obtain ⟨m, hm⟩ : ∃ m, set.length = m := ⟨_, rfl⟩
  rw [hT] at H GD LN ⊢
  rw [hm] at GD LN hl
  have TK : Hid (∀ j, j < m → T.take (j + 1) = T.take j ++ [T.getD j 0]) := fun j hj => take_getD (by omega)
  have HM := Lib.hid LN
  clear hu hv hs hb hq hT hm LN
  go_enter Tryd.func53, Tryd.ntmps53
  go_wp2_with fail
  refine H.out.mono ?_
  rintro e w1 ⟨r, rfl, i1, b1⟩
  obtain ⟨a, cap, rfl, hc⟩ := part2 i1.at
  rw [HM.out] at hc ⊢
  have HC := Lib.hid hc
  have B1 := Lib.hid b1
  clear i1 b1 hc H
  go_wp2
  go_loop [5, 13] (fun s i => ∃ j x : Nat, j ≤ m ∧ x < 4294967296 ∧ s = .int .u32 x ∧ i = .int .i64 j ∧ Hid (PsOut (T.take j) x)) (fun _ i => m - (intOf i).toNat)
  case atStart => exact ⟨0, 0, by omega, by omega, rfl, rfl, by omega, fun n => by simp⟩
  case round =>
    obtain ⟨j, x, hj, hx, rfl, rfl, hP⟩ := hrel
    by_cases c : j < m
    · have g1 : decide (j < m) = true := by simpa using c
      obtain ⟨t, ht, tl⟩ := GD.out j c
      obtain ⟨g, off, rfl, hgs, cj⟩ := HC.out j c
      rw [ht] at cj
      have TK2 := TK.out j c
      rw [ht] at TK2
      have j0 : (0 : Int) ≤ (j : Int) := by omega
      have j1 : (j : Int) < (m : Int) := by omega
      have w3 := wrapk (n := (j : Int) + 1) (by omega)
      have tp : 2 ^ t < 4294967296 := by
        have : 2 ^ t < 2 ^ 32 := Nat.pow_lt_pow_right (by omega) tl
        omega
      have V : Hid (PsOut (T.take (j + 1)) (x ||| 2 ^ t)) := by
        refine ⟨Nat.or_lt_two_pow (n := 32) (by omega) (by omega), fun n => ?_⟩
        rw [Nat.testBit_or, hP.out.2 n, Nat.testBit_two_pow, TK2]
        by_cases e : t = n
        · subst e; simp
        · have e2 : ¬ (n : Int) = (t : Int) := by omega
          simp [e, e2]
      obtain ⟨y, hy⟩ : ∃ y, 2 ^ t = y := ⟨_, rfl⟩
      have HSP := Lib.hid (fun W : World => isingle t tl W)
      rw [hy] at V tp
      simp only [hy] at HSP
      have E : Hid (bits BinOp.or .u32 (x : Int) (y : Int) = ((x ||| y : Nat) : Int)) := u32_or x y hx tp
      have VL := V.out.1
      clear ht TK2 tp hy hgs
      go_wp2_with (go_at_call 70; refine (HSP.out _).mono ?_; rintro e w' ⟨rfl, ew⟩; rw [ew]; clear ew)
      go_round
      case rel => exact ⟨j + 1, x ||| y, by omega, VL, ⟨by rw [E.out], by go_num, V⟩⟩
      case measure => simp [intOf]; omega
    · have g1 : decide (j < m) = false := by simpa using c
      have ej : j = m := by omega
      have V : Hid (PsOut T x) := by
        have := hP.out
        rwa [ej, ← HM.out, List.take_length] at this
      clear ej
      go_wp2
      go_ret
      exact ⟨x, rfl, V.out, B1.out⟩

set_option maxHeartbeats 1000000 in
theorem iApplySet (ps set : List Int) (hx : SmallL ps) (hy : SmallL set) (W : World) (u v : Value) (hu : IntsC W u ps) (hv : IntsC W v set) (ht : Tab W) :
    Calls Tryd.prog 27 #[u, v] W fun e w' => ∃ r, e = .returned (.tuple #[r, .int .i64 (ApplySet_1 ps set)]) ∧ Ints w' W.heap.size r (ApplySet_0 ps set) ∧ Below W.heap.size W w' := by
  have HX := Lib.hid (iok W u ps hu)
  cases hp : pmB ps with
  | false =>
    have V := Lib.hid (Apply_bad (set := set) hp)
    rw [hp] at HX
    clear hp hu hv
    go_enter Tryd.func27, Tryd.ntmps27
    go_wp2_with fail
    refine HX.out.mono ?_
    rintro e w1 ⟨rfl, b1⟩
    have B1 := Lib.hid b1
    clear b1
    go_wp2
    go_ret2
    exact ⟨_, by rw [V.out.2]; rfl, by rw [V.out.1]; exact nilI _ _, B1.out⟩
  | true =>
    rw [hp] at HX
    have HV := Lib.hid (fun W' (b : Below W.heap.size W W') => ivalid W' v set ps.length (hv.1.below b (Nat.le_refl _)))
    cases hq : validSet set ps.length with
    | false =>
      have V := Lib.hid (Apply_far hp hq)
      simp only [hq] at HV
      obtain ⟨m, hm⟩ : ∃ m, ps.length = m := ⟨_, rfl⟩
      obtain ⟨a, ca, rfl⟩ : ∃ a cap, u = .slice a m cap := by
        obtain ⟨a, cap, e, _⟩ := hu.part
        exact ⟨a, cap, by rw [e, hm]⟩
      rw [hm] at HV
      clear hp hq hu hv hm
      go_enter Tryd.func27, Tryd.ntmps27
      go_wp2_with fail
      refine HX.out.mono ?_
      rintro e w1 ⟨rfl, b1⟩
      have B1 := Lib.hid b1
      have HV1 := Lib.hid (HV.out w1 b1)
      clear b1
      go_wp2_with fail
      refine HV1.out.mono ?_
      rintro e w2 ⟨rfl, ew⟩
      rw [← ew]
      clear ew
      go_wp2
      go_ret2
      exact ⟨_, by rw [V.out.2]; rfl, by rw [V.out.1]; exact nilI _ _, B1.out⟩
    | true =>
      have V := Apply_ok hp hq
      simp only [hq] at HV
      have bd := validSet_bd hq
      have dg := (of_pmB hp).1
      have ok := (of_pmB hp).2
      have hb : ∀ j, j < set.length → ∃ t : Nat, ps.getD (set.getD j 0).toNat 0 = t ∧ t < 32 := fun j hj => by
        have h1 := bd.2 j hj
        have h2 := ok (set.getD j 0).toNat (by omega)
        unfold okPm at h2
        exact ⟨(ps.getD (set.getD j 0).toNat 0).toNat, by omega, by omega⟩
      have sl : set.length ≤ 100000 := by have := validSet_len hq; omega
      have IMS := Lib.hid (fun W' (b : Below W.heap.size W W') => iimset W' u v ps set (hu.1.below b (Nat.le_refl _)) (hv.1.below b (Nat.le_refl _)) bd.2 hb sl (by omega))
      have EI : Hid (∀ s : Nat, PsOut (tms set ps) s → fls 32 (fun n => s.testBit n) = ApplySet_0 ps set) := fun s hs => by
        have := img_fls hb set.length (Nat.le_refl _)
        rw [List.take_length] at this
        rw [V.1, this]
        exact fls_congr _ _ _ fun n _ => hs.2 n
      have V2 := Lib.hid V.2
      have TB := Lib.hid ht
      obtain ⟨m, hm⟩ : ∃ m, ps.length = m := ⟨_, rfl⟩
      obtain ⟨a, ca, rfl⟩ : ∃ a cap, u = .slice a m cap := by
        obtain ⟨a, cap, e, _⟩ := hu.part
        exact ⟨a, cap, by rw [e, hm]⟩
      rw [hm] at HV
      clear hp hq hu hv hm V bd dg ok hb sl ht
      go_enter Tryd.func27, Tryd.ntmps27
      go_wp2_with fail
      refine HX.out.mono ?_
      rintro e w1 ⟨rfl, b1⟩
      have B1 := Lib.hid b1
      have HV1 := Lib.hid (HV.out w1 b1)
      have IM1 := Lib.hid (IMS.out w1 b1)
      clear b1
      go_wp2_with fail
      refine HV1.out.mono ?_
      rintro e w2 ⟨rfl, ew⟩
      rw [← ew]
      clear ew
      go_wp2_with fail
      refine IM1.out.mono ?_
      rintro e w3 ⟨s, rfl, hs, b3⟩
      have B3 := Lib.hid (t_chain B1.out b3)
      have HP := Lib.hid (ipoints s w3 hs.1 (TB.out.below B3.out TB.out.pos))
      have ES := Lib.hid (EI.out s hs)
      clear b3 hs
      go_wp2_with fail
      refine HP.out.mono ?_
      rintro e w4 ⟨r, rfl, i4, b4⟩
      rw [ES.out] at i4
      have I4 := Lib.hid (i4.mono (B' := W.heap.size) B3.out.size)
      have B4 := Lib.hid (t_chain B3.out b4)
      clear i4 b4
      go_wp2
      go_ret2
      exact ⟨_, by rw [V2.out]; rfl, I4.out, B4.out⟩
end Go.Proofs.YtigcgpgkpkoodaaDoor
