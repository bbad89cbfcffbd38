/- Cycles of a permutation: the model. -/
import Derived.Test.YtkenmjdfpieagaaCyc
import Derived.Test.YtkenmjdfpieagaaRowp
namespace Go.Proofs.Ytkenmjdfpieagaa
open Go.RowKit
set_option linter.unusedVariables false

theorem Try.infoBool : (Try.prog.info? 4).map (fun i => (i.zero, i.size, i.bytes)) = some (some (.bool false), 1, 1) := by kernel_rfl
theorem made_ba (w : World) (T : TypeId) (n : Nat) : Ba (w.alloc (.cells (madeCells #[.bool false] n) T)) T w.heap.size n (inL []) := by
  unfold Ba
  rw [heap_alloc_new, inL_nil]
  have : madeCells #[Value.bool false] n = bar n (fun _ => false) := by
    apply Array.toList_inj.1
    rw [toList_madeCells_one]
    unfold bar
    rw [List.map_const', List.length_range]
  rw [this]

set_option maxRecDepth 100000 in
set_option maxHeartbeats 4000000 in
theorem sCycles (w : World) (v : Value) (ps : List Int) (hv : IntsC w v ps) (hp : pmB ps = true) :
    Calls Try.prog 66 #[v] w fun e w' => ∃ r, e = .returned r ∧ RowsL w' w.heap.size w'.heap.size r (cyclesL ps) ∧ Below w.heap.size w w' := by
  have P01 := Lib.hid (perm01 hp)
  have hl32 := (of_pmB hp).1
  have CL : Hid (cyclesL ps = (cst ps ps.length).2) := rfl
  have COK : Hid (∀ j, j ≤ ps.length → SeenOk ps.length (cst ps j).1 ∧ tot (cst ps j).2 = (cst ps j).1.length ∧ (cst ps j).2.length ≤ j) := fun j hj => cst_ok P01.out j hj
  obtain ⟨a, cap, rfl, hc⟩ := part2 hv.1
  obtain ⟨m, hm⟩ : ∃ m, ps.length = m := ⟨_, rfl⟩
  have HM := Lib.hid hm
  rw [hm] at hl32 hc ⊢
  have HC := Lib.hid hc
  have hmk := fun W : World => run_make_row' (P := Try.prog) 90 4 (.bool false) 1 Try.underlying90 Try.infoBool rfl .i64 .i64 m (by omega) (by omega) W
  clear hm hp hv hc
  go_enter Try.func66, Try.ntmps66
  go_wp2
  obtain ⟨B, hB⟩ : ∃ B, w.heap.size = B := ⟨_, rfl⟩
  have b1 : Below B w (w.alloc (.cells #[] 24)) := (Below.refl _ _).alloc (by omega) _
  have R1 : RowsL (w.alloc (.cells #[] 24)) B (B + 1) (.slice (some ⟨B, 0, none⟩) 0 0) [] := by
    have := RowsL.made w B 0 #[] (by omega) (by decide) rfl
    rw [hB] at this; exact this
  have z1 : (w.alloc (.cells #[] 24)).heap.size = B + 1 := by rw [World.size_alloc, hB]
  rw [hB]
  obtain ⟨w1, hw1⟩ : ∃ w1, w.alloc (.cells #[] 24) = w1 := ⟨_, rfl⟩
  rw [hw1] at b1 R1 z1 ⊢
  have b2 : Below (B + 1) w1 (w1.alloc (.cells (madeCells #[.bool false] m) 4)) := (Below.refl _ _).alloc (by omega) _
  have A2 := made_ba w1 4 m
  have z2 : (w1.alloc (.cells (madeCells #[.bool false] m) 4)).heap.size = B + 2 := by rw [World.size_alloc, z1]
  rw [z1] at A2
  obtain ⟨w2, hw2⟩ : ∃ w2, w1.alloc (.cells (madeCells #[.bool false] m) 4) = w2 := ⟨_, rfl⟩
  rw [hw2] at b2 A2 z2 ⊢
  obtain ⟨s, hs⟩ : ∃ s, B + 1 = s := ⟨_, rfl⟩
  have R2 : Hid (RowsL w2 B w2.heap.size (.slice (some ⟨B, 0, none⟩) 0 0) (cst ps 0).2) := (R1.below b2 (by omega)).mono (Nat.le_refl _) (by omega) (Nat.le_refl _)
  have BA : Hid (Ba w2 4 s m (inL (cst ps 0).1)) := by rw [← hs]; exact A2
  have BO : Hid (Below B w w2) := b1.trans (b2.mono (by omega))
  have HE := Lib.hid hB
  rw [hs]
  have Bs : B < s := by omega
  rw [hB] at HC
  clear hw1 hw2 R1 A2 b1 b2 hs z1 z2 hmk hB
  go_loopw [3, 5] (fun ov i wr => ∃ (j : Nat), j ≤ m ∧ i = .int .i64 j ∧ Hid (RowsL wr B wr.heap.size ov (cst ps j).2) ∧ Hid (Ba wr 4 s m (inL (cst ps j).1)) ∧ Hid (Below B w wr)) (fun _ i _ => m - (intOf i).toNat)
  case atStart => exact ⟨0, by omega, rfl, R2, BA, BO⟩
  case round =>
    obtain ⟨j, hj, rfl, hR, hS, hBl⟩ := hrel
    by_cases c : j < m
    · have k1 : decide (j < m) = true := by simpa using c
      have k1' : decide ((j : Int) < (m : Int)) = true := decide_eq_true (by omega)
      have j0 : (0 : Int) ≤ (j : Int) := by omega
      have j1 : (j : Int) < (m : Int) := by omega
      have w3 := IntWalk.i64_in ((j : Int) + 1) (by omega)
      have w4 := IntWalk.i64_in (j : Int) (by omega)
      have cj := hS.out.cell j (by omega)
      obtain ⟨b, hb⟩ : ∃ b, inL (cst ps j).1 j = b := ⟨_, rfl⟩
      rw [hb] at cj
      cases b with
      | true =>
        have e := cst_skip (of_decide_eq_true hb)
        have R3 : Hid (RowsL wr B wr.heap.size u3 (cst ps (j + 1)).2) := by unfold Hid; rw [e]; exact hR.out
        have S3 : Hid (Ba wr 4 s m (inL (cst ps (j + 1)).1)) := by unfold Hid; rw [e]; exact hS.out
        clear hb e
        go_wp2
        go_roundw
        case rel => exact ⟨j + 1, by omega, by go_num, R3, S3, hBl⟩
        case measure => simp [intOf]; omega
      | false =>
        have hn : ¬ (j : Int) ∈ (cst ps j).1 := of_decide_eq_false hb
        have GO := Lib.hid (cst_go hn)
        have CJ := Lib.hid (COK.out j (by have := HM.out; omega))
        have cl : (cst ps j).2.length ≤ j := CJ.out.2.2
        clear hb hn
        obtain ⟨wc, rfl⟩ : ∃ wc : World, wc = wr := ⟨_, rfl⟩
        have s1 : s < wc.heap.size := hS.out.lt
        obtain ⟨ov, rfl⟩ : ∃ ov : Value, ov = u3 := ⟨_, rfl⟩
        go_wp2
        obtain ⟨wo, hwo⟩ : ∃ wo, wc.alloc (.cells #[] 2) = wo := ⟨_, rfl⟩
        have I0 : Hid (Ints wo wc.heap.size (.slice (some ⟨wc.heap.size, 0, none⟩) 0 0) []) := by rw [← hwo]; exact World.ownsRow_made wc #[] 0 (Nat.le_refl _) (by decide) rfl
        have bo : Below wc.heap.size wc wo := by rw [← hwo]; exact (Below.refl _ _).alloc (Nat.le_refl _) _
        have S0 : Hid (Ba wo 4 s m (inL ((cst ps j).1 ++ []))) := by unfold Hid; rw [List.append_nil]; exact hS.out.below bo s1
        have G0 : Hid (wc.grownBy wo (some s)) := grown_below (grown_refl wc (some s)) bo (Nat.le_refl _)
        rw [hwo]
        clear hwo bo
        go_loopw [6, 7] (fun cv xv wi => ∃ (acc : List Int) (x : Int), xv = .int .i64 x ∧ Hid (Ints wi wc.heap.size cv acc) ∧ Hid (Ba wi 4 s m (inL ((cst ps j).1 ++ acc))) ∧ Hid (InWalk ps (cst ps j).1 j acc x) ∧ Hid (wc.grownBy wi (some s))) (fun cv _ _ => m + 1 - lenV cv)
        case atStart => exact ⟨[], j, rfl, I0, S0, InWalk.start CJ.out.1 (by have := HM.out; omega), G0⟩
        case round =>
          obtain ⟨acc, x, rfl, hI, hA, hW, hG⟩ := hrel
          have hx := hW.out.xr
          rw [HM.out] at hx
          obtain ⟨t, rfl⟩ : ∃ t : Nat, x = t := ⟨x.toNat, by omega⟩
          have t0 : (0 : Int) ≤ (t : Int) := by omega
          have t1 : (t : Int) < (m : Int) := by omega
          have ct := hA.out.cell t (by omega)
          have hf := hA.out.frozen t
          have sz := hG.out.size
          have lv := hI.out.lenV
          obtain ⟨b, hb⟩ : ∃ b, inL ((cst ps j).1 ++ acc) t = b := ⟨_, rfl⟩
          rw [hb] at ct
          cases b with
          | false =>
            have hn : ¬ (t : Int) ∈ (cst ps j).1 ++ acc := of_decide_eq_false hb
            have N := Lib.hid (hW.out.next P01.out hn)
            have R := hW.out.room hn
            rw [HM.out] at R
            obtain ⟨g, off, rfl, hg, cc⟩ := HC.out t (by omega)
            obtain ⟨y, hy⟩ : ∃ y, ps.getD t 0 = y := ⟨_, rfl⟩
            rw [hy] at N cc
            have I2 : Hid (Ints (wr.setCell ⟨s, t, none⟩ (.bool true)) wc.heap.size u6 acc) := hI.out.setOther s1
            have A2 : Hid (Ba (wr.setCell ⟨s, t, none⟩ (.bool true)) 4 s m (inL ((cst ps j).1 ++ (acc ++ [(t : Int)])))) := by
              have := hA.out.set t true
              rw [inL_snoc (x := (t : Int)) rfl, List.append_assoc] at this
              exact this
            have G2 : Hid (wc.grownBy (wr.setCell ⟨s, t, none⟩ (.bool true)) (some s)) := grown_set hG.out
            have z2 : wc.heap.size ≤ (wr.setCell ⟨s, t, none⟩ (.bool true)).heap.size := G2.out.size
            have CX : Hid (∀ W, Below wc.heap.size (wr.setCell ⟨s, t, none⟩ (.bool true)) W → W.cell? ⟨g, off + t, none⟩ = some (.int .i64 y)) := fun W hb2 => by
              rw [(hBl.out.trans (below_of_hole (grown_below G2.out hb2 (Nat.le_refl _)) (by omega) (by omega))).cell (p := ⟨g, off + t, none⟩) hg, cc]
            clear hb hn hy cc
            obtain ⟨wq, hwq⟩ : ∃ wq, wr.setCell ⟨s, t, none⟩ (.bool true) = wq := ⟨_, rfl⟩
            rw [hwq] at I2 A2 G2 CX z2
            go_wp2_with (at_builtin; refine wpList_push wq (by rfl) _ _ (by rfl) wc.heap.size _ _ (by rfl) I2.out t _ (by rfl) (by omega) z2 ?_; intro v' w6 hn hb; have HN' := Lib.hid hn; have HB2 := Lib.hid hb; have HC3 := CX.out w6 hb; clear hn hb)
            have lv2 := HN'.out.lenV
            rw [List.length_append] at lv2
            simp only [List.length_cons, List.length_nil] at lv2
            go_roundw
            case rel => exact ⟨acc ++ [(t : Int)], y, rfl, HN', A2.out.below HB2.out s1, N, grown_below G2.out HB2.out (Nat.le_refl _)⟩
            case measure => omega
          | true =>
            have A := Lib.hid (hW.out.stop (of_decide_eq_true hb))
            have R3 : Hid (RowsL wr B wc.heap.size ov (cst ps j).2) := hR.out.hole hG.out hS.out (by decide) (by decide)
            have no := Lib.hid (hR.out.outer hS.out (by decide))
            have rl : B ≤ wc.heap.size := by have := hBl.out.size; have := HE.out; omega
            clear hb
            obtain ⟨a6, c6, rfl⟩ := hI.out.c.shape
            go_wp2_with (at_builtin; refine wpList_pushRg wr (by rfl) _ _ (by rfl) B wc.heap.size _ _ _ acc (by rfl) R3.out hI.out _ (by rfl) (by omega) rl ?_; intro v' w6 hn hb hg; have HN' := Lib.hid hn; have HB2 := Lib.hid hb; have HG2 := Lib.hid hg; clear hn hb hg)
            have R4 : Hid (RowsL w6 B w6.heap.size v' (cst ps (j + 1)).2) := by unfold Hid; rw [GO.out.2, ← A.out]; exact HN'.out
            have S4 : Hid (Ba w6 4 s m (inL (cst ps (j + 1)).1)) := by
              unfold Hid
              rw [GO.out.1, ← A.out]
              exact (HG2.out.block s (by omega) (fun e => no.out e.symm)).trans hA.out
            go_roundw
            case rel => exact ⟨j + 1, by omega, by go_num, R4, S4, (hBl.out.trans (below_of_hole hG.out (by omega) rl)).trans HB2.out⟩
            case measure => simp [intOf]; omega
    · have k1 : decide (j < m) = false := by simpa using c
      have k1' : decide ((j : Int) < (m : Int)) = false := decide_eq_false (by omega)
      obtain rfl : j = m := by omega
      go_wp2
      go_ret
      exact ⟨_, rfl, by rw [CL.out, HM.out, HE.out]; exact hR.out, by rw [HE.out]; exact hBl.out⟩
end Go.Proofs.Ytkenmjdfpieagaa
