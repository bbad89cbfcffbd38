/- IntercalatesOf: the model. -/
import Derived.Test.YtekikbkafbpkkaaIcn
import Derived.Test.YtekikbkafbpkkaaRowc
namespace Go.Proofs.Ytekikbkafbpkkaa
open Go.RowKit Go.Shelf
set_option linter.unusedVariables false

set_option maxRecDepth 100000 in
set_option maxHeartbeats 8000000 in
theorem sIntercalatesOf (xss : List (List Int)) (hx : SmallLL xss) (W : World) (v : Value) (hv : RowsAt W v xss) :
    Calls Try.prog 28 #[v] W fun e w' => ∃ r, e = .returned (.tuple #[r, .int .i64 (IntercalatesOf_1 xss)]) ∧ RowsAt w' r (IntercalatesOf_0 xss) ∧ Below W.heap.size W w' := by
  have HS := Lib.hid (sSq W v xss hv)
  have hml := hv.1
  cases hp : sqB xss with
  | false =>
    obtain ⟨va, vk, rfl, -, -⟩ := hv.cellsOf
    have V := Lib.hid (Ico_no hp)
    rw [hp] at HS
    clear hp hv hx
    go_enter Try.func28, Try.ntmps28
    go_wp2_with fail
    refine HS.out.mono ?_
    rintro e w1 ⟨rfl, b1⟩
    have B1 := Lib.hid b1
    clear b1
    go_wp2
    go_ret2
    exact ⟨_, by rw [V.out.2]; rfl, by rw [V.out.1]; exact RowsAt.nil _ _ _, B1.out⟩
  | true =>
    have V := Lib.hid (Ico_yes hp)
    have S := of_sqB hp
    rw [hp] at HS
    have nhi := S.hi
    have nlo := S.lo
    have HI := Lib.hid (fun V' (h : Below W.heap.size W V') b x0 x1 x2 x3 => sIcl V' v xss S (hv.below h (Nat.le_refl _)) b 0 4 x0 x1 x2 x3 (Nat.le_refl _))
    obtain ⟨n, hn⟩ : ∃ n, xss.length = n := ⟨_, rfl⟩
    obtain ⟨F, hF⟩ : ∃ F, cellF xss = F := ⟨_, rfl⟩
    simp only [hn, hF] at HI V
    rw [hn] at nhi nlo hml
    obtain ⟨va, vk, rfl, hk, -⟩ := hv.cellsOf
    rw [hn] at HI HS hk ⊢
    obtain ⟨B, hB⟩ : ∃ B, W.heap.size = B := ⟨_, rfl⟩
    have HB := Lib.hid hB
    simp only [hB] at HI HS
    clear hp hv hx S hn hF
    go_enter Try.func28, Try.ntmps28
    go_wp2_with fail
    refine HS.out.mono ?_
    rintro e w1 ⟨rfl, b1⟩
    have sw : B ≤ w1.heap.size := by rw [← hB]; exact b1.size
    have M0 : Hid (Below B W (w1.alloc (.cells #[] 26))) := b1.alloc (by omega) _
    have R0 : Hid (RowsL (w1.alloc (.cells #[] 26)) B (w1.alloc (.cells #[] 26)).heap.size (.slice (some ⟨w1.heap.size, 0, none⟩) 0 0) (itL n F 0 1 0 1)) := by
      rw [itL_start, World.size_alloc]; exact RowsL.made w1 B 0 #[] sw (by decide) rfl
    have z0 : B ≤ (w1.alloc (.cells #[] 26)).heap.size := by rw [World.size_alloc]; omega
    clear b1 HS
    go_wp2
    obtain ⟨wo, hwo⟩ : ∃ wo, w1.alloc (.cells #[] 26) = wo := ⟨_, rfl⟩
    rw [hwo] at M0 R0 z0 ⊢
    clear hwo hB sw
    go_loopw [4, 6] (fun rv i wr => ∃ r : Nat, r ≤ n ∧ i = .int .i64 r ∧ Hid (RowsL wr B wr.heap.size rv (itL n F r (r + 1) 0 1)) ∧ Hid (Below B W wr) ∧ B ≤ wr.heap.size) (fun _ i _ => n - (intOf i).toNat)
    case atStart => exact ⟨0, by omega, rfl, R0, M0, z0⟩
    case round =>
      obtain ⟨r, hr, rfl, hR, hM, hz⟩ := hrel
      by_cases c1 : r < n
      · have k1 : decide ((r : Int) < (n : Int)) = true := decide_eq_true (by omega)
        have k1' : decide (r < n) = true := decide_eq_true c1
        have wr1 := IntWalk.i64_in ((r : Int) + 1) (by omega)
        obtain ⟨wq, rfl⟩ : ∃ wq : World, wq = wr := ⟨_, rfl⟩
        go_wp2
        go_loopw [4, 7] (fun rv i wr => ∃ s : Nat, r + 1 ≤ s ∧ s ≤ n ∧ i = .int .i64 s ∧ Hid (RowsL wr B wr.heap.size rv (itL n F r s 0 1)) ∧ Hid (Below B W wr) ∧ B ≤ wr.heap.size) (fun _ i _ => n - (intOf i).toNat)
        case atStart => exact ⟨r + 1, by omega, by omega, by go_num, hR, hM, hz⟩
        case round =>
          obtain ⟨s, hs1, hs, rfl, hR2, hM2, hz2⟩ := hrel
          by_cases c2 : s < n
          · have k2 : decide ((s : Int) < (n : Int)) = true := decide_eq_true (by omega)
            have k2' : decide (s < n) = true := decide_eq_true c2
            have ws1 := IntWalk.i64_in ((s : Int) + 1) (by omega)
            obtain ⟨wq2, rfl⟩ : ∃ wq : World, wq = wr := ⟨_, rfl⟩
            go_wp2
            go_loopw [4, 8] (fun rv i wr => ∃ c : Nat, c ≤ n ∧ i = .int .i64 c ∧ Hid (RowsL wr B wr.heap.size rv (itL n F r s c (c + 1))) ∧ Hid (Below B W wr) ∧ B ≤ wr.heap.size) (fun _ i _ => n - (intOf i).toNat)
            case atStart => exact ⟨0, by omega, rfl, hR2, hM2, hz2⟩
            case round =>
              obtain ⟨c, hc, rfl, hR3, hM3, hz3⟩ := hrel
              by_cases c3 : c < n
              · have k3 : decide ((c : Int) < (n : Int)) = true := decide_eq_true (by omega)
                have k3' : decide (c < n) = true := decide_eq_true c3
                have wc1 := IntWalk.i64_in ((c : Int) + 1) (by omega)
                obtain ⟨wq3, rfl⟩ : ∃ wq : World, wq = wr := ⟨_, rfl⟩
                go_wp2
                go_loopw [4, 9] (fun rv i wr => ∃ d : Nat, c + 1 ≤ d ∧ d ≤ n ∧ i = .int .i64 d ∧ Hid (RowsL wr B wr.heap.size rv (itL n F r s c d)) ∧ Hid (Below B W wr) ∧ B ≤ wr.heap.size) (fun _ i _ => n - (intOf i).toNat)
                case atStart => exact ⟨c + 1, by omega, by omega, by go_num, hR3, hM3, hz3⟩
                case round =>
                  obtain ⟨d, hd1, hd, rfl, hR4, hM4, hz4⟩ := hrel
                  by_cases c4 : d < n
                  · have k4 : decide ((d : Int) < (n : Int)) = true := decide_eq_true (by omega)
                    have k4' : decide (d < n) = true := decide_eq_true c4
                    have wd1 := IntWalk.i64_in ((d : Int) + 1) (by omega)
                    obtain ⟨ov, rfl⟩ : ∃ ov : Value, ov = u4 := ⟨_, rfl⟩
                    have T1 := heap_alloc_new wr (.cells #[.int .i64 (r : Int), .int .i64 (s : Int), .int .i64 (c : Int), .int .i64 (d : Int)] 2)
                    have ba : Below wr.heap.size wr (wr.alloc (.cells #[.int .i64 (r : Int), .int .i64 (s : Int), .int .i64 (c : Int), .int .i64 (d : Int)] 2)) := (Below.refl _ _).alloc (Nat.le_refl _) _
                    obtain ⟨wa, hwa⟩ : ∃ wa, wr.alloc (.cells #[.int .i64 (r : Int), .int .i64 (s : Int), .int .i64 (c : Int), .int .i64 (d : Int)] 2) = wa := ⟨_, rfl⟩
                    rw [hwa] at T1 ba
                    have MA := Lib.hid (hM4.out.trans (ba.mono hz4))
                    have HC := Lib.hid (HI.out wa MA.out wr.heap.size r s c d ((cell_of_row _ _ _ _ _ _ T1).trans rfl) ((cell_of_row _ _ _ _ _ _ T1).trans rfl) ((cell_of_row _ _ _ _ _ _ T1).trans rfl) ((cell_of_row _ _ _ _ _ _ T1).trans rfl))
                    rw [icB_itc F (by omega) c2 (by omega) c4] at HC
                    have BA := Lib.hid ba
                    have HL := Lib.hid (itL_len F nhi (r := r) (s := s) (c := c) (d := d) (by omega) (by omega) (by omega) (by omega))
                    have LD := Lib.hid (itL_d (n := n) F (r := r) (s := s) (c := c) (d := d) hd1)
                    have IY := Lib.hid (fun h => itc_yes (F := F) (r := r) (s := s) (c := c) (d := d) h)
                    have IN := Lib.hid (fun h => itc_no (F := F) (r := r) (s := s) (c := c) (d := d) h)
                    obtain ⟨t, ht⟩ : ∃ t, (F r c == F s d && F r d == F s c) = t := ⟨_, rfl⟩
                    rw [ht] at HC IY IN
                    clear T1 ba ht
                    go_wp2_with fail
                    refine HC.out.mono ?_
                    rintro e w5 ⟨rfl, b5⟩
                    have B5 := Lib.hid (t_chain BA.out b5)
                    have M5 := Lib.hid (MA.out.trans (b5.mono (by have := BA.out.size; omega)))
                    have R5 := Lib.hid (hR4.out.below B5.out (Nat.le_refl _))
                    have z5 : wr.heap.size ≤ w5.heap.size := B5.out.size
                    have z6 : B ≤ w5.heap.size := by omega
                    clear b5 hwa HC MA BA
                    cases t with
                    | false =>
                      have R6 : Hid (RowsL w5 B w5.heap.size ov (itL n F r s c (d + 1))) := by
                        unfold Hid; rw [LD.out, IN.out rfl, List.append_nil]
                        exact R5.out.mono (Nat.le_refl _) z5 (Nat.le_refl _)
                      clear R5 LD IN IY HL
                      go_wp2
                      go_roundw
                      case rel => exact ⟨d + 1, by omega, by omega, by go_num, R6, M5, z6⟩
                      case measure => simp [intOf]; omega
                    | true =>
                      have I5 : Ints (w5.alloc (.cells #[.int .i64 (r : Int), .int .i64 (s : Int), .int .i64 (c : Int), .int .i64 (d : Int)] 2)) w5.heap.size (.slice (some ⟨w5.heap.size, 0, none⟩) 4 4) [(r : Int), (s : Int), (c : Int), (d : Int)] :=
                        Ia.ints (q := 4) (c := fun i => [(r : Int), (s : Int), (c : Int), (d : Int)].getD i 0) (heap_alloc_new _ _) (Nat.le_refl _) (by decide)
                      have b6 : Below w5.heap.size w5 (w5.alloc (.cells #[.int .i64 (r : Int), .int .i64 (s : Int), .int .i64 (c : Int), .int .i64 (d : Int)] 2)) := (Below.refl _ _).alloc (Nat.le_refl _) _
                      have sb : (w5.alloc (.cells #[.int .i64 (r : Int), .int .i64 (s : Int), .int .i64 (c : Int), .int .i64 (d : Int)] 2)).heap.size = w5.heap.size + 1 := World.size_alloc _ _
                      obtain ⟨wb, hwb⟩ : ∃ wb, w5.alloc (.cells #[.int .i64 (r : Int), .int .i64 (s : Int), .int .i64 (c : Int), .int .i64 (d : Int)] 2) = wb := ⟨_, rfl⟩
                      rw [hwb] at I5 b6 sb
                      have R6 := Lib.hid ((R5.out.mono (L' := w5.heap.size) (Nat.le_refl B) z5 (Nat.le_refl _)).below b6 (Nat.le_refl _))
                      have J5 := Lib.hid I5
                      have M6 := Lib.hid (M5.out.trans (b6.mono z6))
                      have SB := Lib.hid sb
                      have lt := HL.out
                      rw [IY.out rfl] at LD
                      clear R5 I5 b6 IN IY sb
                      go_wp2_with (at_builtin; (try rw [hwb]); refine wpList_pushR wb (by rfl) _ _ (by rfl) B w5.heap.size _ _ _ _ (by rfl) R6.out J5.out _ (by first | rfl | (rw [SB.out]; rfl)) lt z6 ?_; intro v' w6 hn hb; have HN := Lib.hid hn; have HB6 := Lib.hid hb; clear hn hb)
                      go_roundw
                      case rel => exact ⟨d + 1, by omega, by omega, by go_num, by unfold Hid; rw [LD.out]; exact HN.out, M6.out.trans HB6.out, by have := M6.out.size; have := HB6.out.size; have := SB.out; omega⟩
                      case measure => simp [intOf]; omega
                  · have k4 : decide ((d : Int) < (n : Int)) = false := decide_eq_false (by omega)
                    have k4' : decide (d < n) = false := decide_eq_false c4
                    obtain rfl : d = n := by omega
                    rw [itL_c] at hR4
                    go_wp2
                    go_roundw
                    case rel => exact ⟨c + 1, by omega, by go_num, hR4, hM4, hz4⟩
                    case measure => simp [intOf]; omega
              · have k3 : decide ((c : Int) < (n : Int)) = false := decide_eq_false (by omega)
                have k3' : decide (c < n) = false := decide_eq_false c3
                obtain rfl : c = n := by omega
                rw [itL_s F hs1] at hR3
                go_wp2
                go_roundw
                case rel => exact ⟨s + 1, by omega, by omega, by go_num, hR3, hM3, hz3⟩
                case measure => simp [intOf]; omega
          · have k2 : decide ((s : Int) < (n : Int)) = false := decide_eq_false (by omega)
            have k2' : decide (s < n) = false := decide_eq_false c2
            obtain rfl : s = n := by omega
            rw [itL_r] at hR2
            go_wp2
            go_roundw
            case rel => exact ⟨r + 1, by omega, by go_num, hR2, hM2, hz2⟩
            case measure => simp [intOf]; omega
      · have k1 : decide ((r : Int) < (n : Int)) = false := decide_eq_false (by omega)
        have k1' : decide (r < n) = false := decide_eq_false c1
        obtain rfl : r = n := by omega
        rw [itL_end] at hR
        go_wp2
        go_ret2
        exact ⟨_, by rw [V.out.2]; rfl, by rw [V.out.1]; exact hR.out.at, by rw [HB.out]; exact hM.out⟩
end Go.Proofs.Ytekikbkafbpkkaa
