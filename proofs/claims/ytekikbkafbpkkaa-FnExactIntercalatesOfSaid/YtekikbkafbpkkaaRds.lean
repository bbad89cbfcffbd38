/- ReducedSquare: both exported functions. -/
import Derived.Test.YtekikbkafbpkkaaRed
import Derived.Test.YtekikbkafbpkkaaIsf
namespace Go.Proofs.Ytekikbkafbpkkaa
open Go.RowKit Go.Shelf
set_option linter.unusedVariables false

noncomputable def ReducedSquare_0 (xss : List (List Int)) : List (List Int) := if sqB xss = true then gridL xss.length xss.length (redF xss.length (cellF xss)) else []
noncomputable def ReducedSquare_1 (xss : List (List Int)) : Int := if sqB xss = true then 0 else 1
theorem Red_bad {xss : List (List Int)} (h : sqB xss = false) : ReducedSquare_0 xss = [] ∧ ReducedSquare_1 xss = 1 := by unfold ReducedSquare_0 ReducedSquare_1; rw [h]; exact ⟨rfl, rfl⟩
theorem Red_ok {xss : List (List Int)} (h : sqB xss = true) : ReducedSquare_0 xss = gridL xss.length xss.length (redF xss.length (cellF xss)) ∧ ReducedSquare_1 xss = 0 := by unfold ReducedSquare_0 ReducedSquare_1; rw [h]; exact ⟨rfl, rfl⟩
theorem lenReducedSquare_0 (xss : List (List Int)) (hx : SmallLL xss) : (ReducedSquare_0 xss).length + tot (ReducedSquare_0 xss) ≤ 2000000 := by
  cases e : sqB xss with
  | false => rw [(Red_bad e).1]; decide
  | true =>
    have := (of_sqB e).hi
    rw [(Red_ok e).1, gridL_length, tot_gridL]
    have : xss.length * xss.length ≤ 10 * 10 := Nat.mul_le_mul this this
    omega
theorem IsSq.inSq {xss : List (List Int)} (h : IsSq xss) : InSq xss.length (cellF xss) := fun x y hx hy => h.cell hx hy
theorem red_sqF {n : Nat} (f : Nat → Nat → Int) : redF n (sqF n f) = redF n f := redF_congr fun x y hx hy => sqF_in f hx hy

theorem oneL_pm (n : Nat) : ∀ i, i < n → 0 ≤ (oneL n).getD i 0 ∧ (oneL n).getD i 0 < n := fun i hi => by rw [oneL_getD n i hi]; omega
theorem cellF_grid {n x y : Nat} (f : Nat → Nat → Int) (hx : x < n) (hy : y < n) : cellF (gridL n n f) x y = f x y := by
  unfold cellF; rw [gridL_getD f hx, rowf_getD _ hy]

set_option maxRecDepth 100000 in
set_option maxHeartbeats 4000000 in
theorem sReducedSquare (xss : List (List Int)) (hx : SmallLL xss) (w : World) (v : Value) (hv : RowsAt w v xss) :
    Calls Try.prog 46 #[v] w fun e w' => ∃ r, e = .returned (.tuple #[r, .int .i64 (ReducedSquare_1 xss)]) ∧ RowsAt w' r (ReducedSquare_0 xss) ∧ Below w.heap.size w w' := by
  have HS := Lib.hid (sSq w v xss hv)
  have hml := hv.1
  cases hp : sqB xss with
  | false =>
    obtain ⟨va, vk, rfl, -, -⟩ := hv.cellsOf
    have V := Lib.hid (Red_bad hp)
    rw [hp] at HS
    clear hp hv
    go_enter Try.func46, Try.ntmps46
    go_wp2_with fail
    refine HS.out.mono ?_
    rintro e w1 ⟨rfl, b1⟩
    have B1 := Lib.hid b1
    clear b1
    go_wp2
    go_ret2
    exact ⟨_, by rw [V.out.2]; rfl, by rw [V.out.1]; exact RowsAt.nil _ _ _, B1.out⟩
  | true =>
    have V := Lib.hid (Red_ok hp)
    have S := of_sqB hp
    rw [hp] at HS
    have nhi := S.hi
    have nlo := S.lo
    have IQ := Lib.hid S.inSq
    have RL := Lib.hid S.rowLen
    obtain ⟨va, vk, rfl, -, hc⟩ := hv.cellsOf
    have HV := Lib.hid (fun W (b : Below w.heap.size w W) => hv.below b (Nat.le_refl _))
    obtain ⟨n, hn⟩ : ∃ n, xss.length = n := ⟨_, rfl⟩
    rw [hn] at HS V nhi nlo IQ RL HV hml hc ⊢
    obtain ⟨g0, off0, u0, rfl, hg0, c0, i0⟩ := hc 0 (by omega)
    have I0 := Lib.hid (fun W (b : Below w.heap.size w W) => i0.below b (Nat.le_refl _))
    obtain ⟨ua, uk, rfl⟩ := i0.shape
    have R0 := Lib.hid (show (xss.getD 0 []).length = n from RL.out 0 (by omega))
    rw [R0.out] at c0 I0
    rw [Nat.add_zero] at c0
    have HN := Lib.hid hn
    clear hp hv S hn hc i0
    go_enter Try.func46, Try.ntmps46
    go_wp2_with fail
    refine HS.out.mono ?_
    rintro e w1 ⟨rfl, b1⟩
    have B1 := Lib.hid b1
    have HO := Lib.hid (sOne w1 n (by omega))
    clear b1
    go_wp2_with fail
    refine HO.out.mono ?_
    rintro e w2 ⟨o, rfl, o2, b2⟩
    have b02 := t_chain B1.out b2
    have B2 := Lib.hid b02
    have O2 := Lib.hid (fun W (b : Below w2.heap.size w2 W) => (o2.below b (Nat.le_refl _)).at)
    have c2 := (b02.cell (p := ⟨g0, off0, none⟩) hg0).trans c0
    have HI := Lib.hid (sIsoL n nlo nhi w2 _ o _ o xss (oneL n) (xss.getD 0 []) (oneL n) (HV.out w2 b02) o2.at (I0.out w2 b02).1 o2.at HN.out (fun x hx => RL.out x hx) (fun x y hx hy => IQ.out x y hx hy) (oneL_length n) R0.out (oneL_length n) (oneL_pm n) (fun i hi => IQ.out 0 i (by omega) hi))
    have EM : movSt n (isoMv xss (oneL n) (xss.getD 0 []) (oneL n)) n = ordF n (cellF xss) := movSt_congr n fun x y hx hy => by
      have := IQ.out x y hx hy
      unfold isoMv redMv1
      rw [oneL_getD n x hx, oneL_getD n _ (show (cellF xss x y).toNat < n by omega)]
      refine Prod.ext (by simp) (Prod.ext rfl ?_)
      simp only; omega
    rw [EM] at HI
    have OI := Lib.hid (ordF_in nlo IQ.out)
    obtain ⟨F, hF⟩ : ∃ F, ordF n (cellF xss) = F := ⟨_, rfl⟩
    rw [hF] at HI OI
    have HF := Lib.hid hF
    clear b2 b02 EM hF c0
    go_wp2_with fail
    refine HI.out.mono ?_
    rintro e w3 ⟨bv, rfl, r3, b3⟩
    have b03 := t_chain B2.out b3
    have B3 := Lib.hid b03
    have O3 := Lib.hid (fun W (b : Below w3.heap.size w3 W) => O2.out W (b3.trans (b.mono b3.size)))
    obtain ⟨ba, bk, rfl, K3⟩ := r3.at.look (n := n) (gridL_length _ _ _) (fun x hx => by rw [gridL_getD _ hx, rowf_length])
    have HK := Lib.hid (fun W b x y (hx : x < n) (hy : y < n) => K3 W b x y hx hy)
    have RA := Lib.hid (fun W (b : Below w3.heap.size w3 W) => r3.at.below b (Nat.le_refl _))
    obtain ⟨B, hB⟩ : ∃ B, w3.heap.size = B := ⟨_, rfl⟩
    have L0 : Hid (Ints (w3.alloc (.cells #[] 2)) B (.slice (some ⟨B, 0, none⟩) 0 0) ((List.range 0).map (fun k => F k 0))) := by rw [← hB]; exact World.ownsRow_made w3 #[] 0 (Nat.le_refl _) (by decide) rfl
    have M0 : Hid (Below B w3 (w3.alloc (.cells #[] 2))) := (Below.refl _ _).alloc (by omega) _
    have z0 : B ≤ (w3.alloc (.cells #[] 2)).heap.size := by rw [World.size_alloc]; omega
    have SU : Hid (∀ k, (List.range (k + 1)).map (fun k => F k 0) = (List.range k).map (fun k => F k 0) ++ [F k 0]) := fun k => by rw [List.range_succ, List.map_append]; rfl
    have LN : Hid (∀ k, ((List.range k).map (fun k => F k 0)).length = k) := fun k => by simp
    rw [hB] at HK RA O3
    have HBB := Lib.hid hB
    clear HI O2 HO r3 b3 K3 b03 HV I0 HS
    go_wp2
    obtain ⟨wo, hwo⟩ : ∃ wo, w3.alloc (.cells #[] 2) = wo := ⟨_, rfl⟩
    rw [hwo] at L0 M0 z0 ⊢
    clear hwo hB
    go_loopw [7, 8] (fun rv i wr => ∃ x : Nat, x ≤ n ∧ i = .int .i64 x ∧ Hid (Ints wr B rv ((List.range x).map (fun k => F k 0))) ∧ Hid (Below B w3 wr) ∧ B ≤ wr.heap.size) (fun _ i _ => n - (intOf i).toNat)
    case atStart => exact ⟨0, by omega, rfl, L0, M0, z0⟩
    case round =>
      obtain ⟨x, hx, rfl, hI, hBl, hz⟩ := hrel
      by_cases c : x < n
      · have k1 : decide (x < n) = true := by simpa using c
        have k1' : decide ((x : Int) < (n : Int)) = true := decide_eq_true (by omega)
        have w5 := IntWalk.i64_in ((x : Int) + 1) (by omega)
        have x0 : (0 : Int) ≤ (x : Int) := by omega
        have x1 : (x : Int) < (n : Int) := by omega
        have n1 : (0 : Int) < (n : Int) := by omega
        obtain ⟨g, off, g2, off2, c2', rfl, m1, m2⟩ := HK.out wr hBl.out x 0 c (by omega)
        rw [cellF_grid _ c (by omega)] at m2
        rw [Nat.add_zero] at m2
        have su := Lib.hid (SU.out x)
        have ln := LN.out x
        obtain ⟨z, hzz⟩ : ∃ z, F x 0 = z := ⟨_, rfl⟩
        rw [hzz] at m2 su
        clear hzz
        go_wp2_with (at_builtin; refine wpList_push wr (by rfl) _ _ (by rfl) B _ _ (by rfl) hI.out z _ (by rfl) (by rw [ln]; omega) hz ?_; intro v' w6 hn hb; have HN6 := Lib.hid hn; have HB6 := Lib.hid hb; clear hn hb)
        go_roundw
        case rel => exact ⟨x + 1, by omega, by go_num, by unfold Hid; rw [su.out]; exact HN6.out, hBl.out.trans HB6.out, Nat.le_trans hz HB6.out.size⟩
        case measure => simp [intOf]; omega
      · have k1 : decide (x < n) = false := by simpa using c
        have k1' : decide ((x : Int) < (n : Int)) = false := decide_eq_false (by omega)
        obtain rfl : x = n := by omega
        have rw0 : ∀ i, i < x → ((List.range x).map (fun k => F k 0)).getD i 0 = F i 0 := fun i hi => rowf_getD (fun k => F k 0) hi
        have HJ := Lib.hid (sIsoL x nlo nhi wr _ _ o o (gridL x x F) ((List.range x).map (fun k => F k 0)) (oneL x) (oneL x) (RA.out wr hBl.out) hI.out.at (O3.out wr hBl.out) (O3.out wr hBl.out) (gridL_length _ _ _) (fun a ha => by rw [gridL_getD _ ha, rowf_length]) (fun a b ha hb => by rw [cellF_grid _ ha hb]; exact OI.out a b) (LN.out x) (oneL_length x) (oneL_length x) (fun i hi => by rw [rw0 i hi]; exact OI.out i 0) (oneL_pm x))
        have EM : movSt x (isoMv (gridL x x F) ((List.range x).map (fun k => F k 0)) (oneL x) (oneL x)) x = redF x (cellF xss) := by
          unfold redF
          rw [HF.out]
          refine movSt_congr x fun a b ha hb => ?_
          have := OI.out a b
          unfold isoMv redMv2
          rw [cellF_grid _ ha hb, rw0 a ha, oneL_getD x b hb, oneL_getD x _ (show (F a b).toNat < x by omega)]
          refine Prod.ext rfl (Prod.ext (by simp) ?_)
          simp only; omega
        rw [EM] at HJ
        have s3 := B3.out.size
        have h3 := HBB.out
        have BW : Hid (Below w.heap.size w wr) := B3.out.trans (hBl.out.mono (by omega))
        clear rw0 EM
        go_wp2_with fail
        refine HJ.out.mono ?_
        rintro e w8 ⟨r, rfl, r8, b8⟩
        have R8 := Lib.hid r8.at
        have B8 := Lib.hid (t_chain BW.out b8)
        clear r8 b8
        go_wp2
        go_ret2
        exact ⟨_, by rw [V.out.2]; rfl, by rw [V.out.1]; exact R8.out, B8.out⟩
end Go.Proofs.Ytekikbkafbpkkaa
