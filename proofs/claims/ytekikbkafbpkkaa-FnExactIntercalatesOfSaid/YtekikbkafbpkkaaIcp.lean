/- IntercalatesOf: the program. -/
import Derived.Test.YtekikbkafbpkkaaIcn
import Derived.Test.YtekikbkafbpkkaaIic
import Derived.Test.YtekikbkafbpkkaaRowc
namespace Go.Proofs.Ytekikbkafbpkkaa
open Go.RowKit Go.Shelf
set_option linter.unusedVariables false

set_option maxRecDepth 100000 in
set_option maxHeartbeats 8000000 in
theorem iIntercalatesOf (xss : List (List Int)) (hx : SmallLL xss) (W : World) (v : Value) (hv : RowsAt W v xss) :
    Calls Try.prog 29 #[v] W fun e w' => ∃ r, e = .returned (.tuple #[r, .int .i64 (IntercalatesOf_1 xss)]) ∧ RowsL w' W.heap.size w'.heap.size r (IntercalatesOf_0 xss) ∧ Below W.heap.size W w' := by
  have HA := Lib.hid (ilsq W v xss hv)
  cases hp : sqB xss with
  | false =>
    have V := Lib.hid (Ico_no hp)
    rw [hp] at HA
    clear hp hv hx
    go_enter Try.func29, Try.ntmps29
    go_wp2_with fail
    refine HA.out.mono ?_
    rintro e w1 ⟨n, F, rfl, -, b1⟩
    have st1 := stores_newSq w1 (sqC n F)
    have B2 : Hid (Below W.heap.size W (w1.alloc (.cells (iar 101 (sqC n F)) 52))) := b1.alloc b1.size _
    clear b1
    go_wp2
    go_ret2
    exact ⟨_, by rw [V.out.2]; rfl, by rw [V.out.1]; exact RowsL.nil _ _ _ (Nat.le_refl _), B2.out⟩
  | true =>
    have V := Lib.hid (Ico_yes hp)
    have S := of_sqB hp
    rw [hp] at HA
    have nhi := S.hi
    have nlo := S.lo
    obtain ⟨n, hn⟩ : ∃ n, xss.length = n := ⟨_, rfl⟩
    rw [hn] at HA V nhi nlo
    obtain ⟨f, hf⟩ : ∃ f, cellF xss = f := ⟨_, rfl⟩
    rw [hf] at HA V
    have SI := Lib.hid (fun x y hx hy => sqF_in (n := n) f (a := x) (b := y) hx hy)
    obtain ⟨F, hF⟩ : ∃ F, sqF n f = F := ⟨_, rfl⟩
    rw [hF] at HA
    simp only [hF] at SI
    clear hp hv hx S hn hf hF
    go_enter Try.func29, Try.ntmps29
    go_wp2_with fail
    refine HA.out.mono ?_
    rintro e w1 ⟨n', F', rfl, hA, b1⟩
    obtain ⟨rfl, rfl⟩ := hA (by trivial)
    have st1 := stores_newSq w1 (sqC n' F')
    have b2 : Below W.heap.size W (w1.alloc (.cells (iar 101 (sqC n' F')) 52)) := b1.alloc b1.size _
    have A2 : SqAt (w1.alloc (.cells (iar 101 (sqC n' F')) 52)) w1.heap.size n' F' := heap_alloc_new _ _
    have s2 : (w1.alloc (.cells (iar 101 (sqC n' F')) 52)).heap.size = w1.heap.size + 1 := World.size_alloc _ _
    obtain ⟨g, hg⟩ : ∃ g, w1.heap.size = g := ⟨_, rfl⟩
    obtain ⟨w2, hw2⟩ : ∃ w2, w1.alloc (.cells (iar 101 (sqC n' F')) 52) = w2 := ⟨_, rfl⟩
    rw [hw2] at st1 b2 A2 s2
    rw [hg] at st1 A2 s2
    have o2 := SqAt.order A2
    have X2 := Lib.hid A2
    have B2 := Lib.hid b2
    have HG := Lib.hid s2
    have HC := Lib.hid (fun V' r s c d h1 h2 h3 h4 => iicl n' nhi V' F' r s c d h1 h2 h3 h4)
    clear hA b1 b2 A2 HA s2
    obtain ⟨B, hB⟩ : ∃ B, w2.heap.size = B := ⟨_, rfl⟩
    have gB : g < B := by rw [← hB, HG.out]; omega
    have WB : W.heap.size ≤ B := by rw [← hB]; exact B2.out.size
    have M0 : Hid (Below B w2 w2) := Below.refl _ _
    have R0 : Hid (RowsL w2 B w2.heap.size (.slice none 0 0) (itL n' f 0 1 0 1)) := by rw [itL_start]; exact RowsL.nil _ _ _ (Nat.le_refl _)
    have z0 : B ≤ w2.heap.size := by omega
    clear hB
    go_wp2
    clear st1 hw2 hg
    go_loopw [6, 20] (fun rv i wr => ∃ r : Nat, r ≤ n' ∧ i = .int .i64 r ∧ Hid (RowsL wr B wr.heap.size rv (itL n' f r (r + 1) 0 1)) ∧ Hid (Below B w2 wr) ∧ B ≤ wr.heap.size) (fun _ i _ => n' - (intOf i).toNat)
    case atStart => exact ⟨0, by omega, rfl, R0, M0, z0⟩
    case round =>
      obtain ⟨r, hr, rfl, hR, hM, hz⟩ := hrel
      have q1 := (hM.out.cell (p := ⟨g, 0, none⟩) gB).trans o2
      by_cases c1 : r < n'
      · have k1 : decide ((r : Int) < (n' : Int)) = true := decide_eq_true (by omega)
        have k1' : decide (r < n') = true := decide_eq_true c1
        have wr1 := IntWalk.i64_in ((r : Int) + 1) (by omega)
        obtain ⟨wq, rfl⟩ : ∃ wq : World, wq = wr := ⟨_, rfl⟩
        go_wp2
        go_loopw [6, 8] (fun rv i wr => ∃ s : Nat, r + 1 ≤ s ∧ s ≤ n' ∧ i = .int .i64 s ∧ Hid (RowsL wr B wr.heap.size rv (itL n' f r s 0 1)) ∧ Hid (Below B w2 wr) ∧ B ≤ wr.heap.size) (fun _ i _ => n' - (intOf i).toNat)
        case atStart => exact ⟨r + 1, by omega, by omega, by go_num, hR, hM, hz⟩
        case round =>
          obtain ⟨s, hs1, hs, rfl, hR2, hM2, hz2⟩ := hrel
          have q2 := (hM2.out.cell (p := ⟨g, 0, none⟩) gB).trans o2
          by_cases c2 : s < n'
          · have k2 : decide ((s : Int) < (n' : Int)) = true := decide_eq_true (by omega)
            have k2' : decide (s < n') = true := decide_eq_true c2
            have ws1 := IntWalk.i64_in ((s : Int) + 1) (by omega)
            obtain ⟨wq2, rfl⟩ : ∃ wq : World, wq = wr := ⟨_, rfl⟩
            go_wp2
            go_loopw [6, 33] (fun rv i wr => ∃ c : Nat, c ≤ n' ∧ i = .int .i64 c ∧ Hid (RowsL wr B wr.heap.size rv (itL n' f r s c (c + 1))) ∧ Hid (Below B w2 wr) ∧ B ≤ wr.heap.size) (fun _ i _ => n' - (intOf i).toNat)
            case atStart => exact ⟨0, by omega, rfl, hR2, hM2, hz2⟩
            case round =>
              obtain ⟨c, hc, rfl, hR3, hM3, hz3⟩ := hrel
              have q3 := (hM3.out.cell (p := ⟨g, 0, none⟩) gB).trans o2
              by_cases c3 : c < n'
              · have k3 : decide ((c : Int) < (n' : Int)) = true := decide_eq_true (by omega)
                have k3' : decide (c < n') = true := decide_eq_true c3
                have wc1 := IntWalk.i64_in ((c : Int) + 1) (by omega)
                obtain ⟨wq3, rfl⟩ : ∃ wq : World, wq = wr := ⟨_, rfl⟩
                go_wp2
                go_loopw [6, 10] (fun rv i wr => ∃ d : Nat, c + 1 ≤ d ∧ d ≤ n' ∧ i = .int .i64 d ∧ Hid (RowsL wr B wr.heap.size rv (itL n' f r s c d)) ∧ Hid (Below B w2 wr) ∧ B ≤ wr.heap.size) (fun _ i _ => n' - (intOf i).toNat)
                case atStart => exact ⟨c + 1, by omega, by omega, by go_num, hR3, hM3, hz3⟩
                case round =>
                  obtain ⟨d, hd1, hd, rfl, hR4, hM4, hz4⟩ := hrel
                  have q4 := (hM4.out.cell (p := ⟨g, 0, none⟩) gB).trans o2
                  by_cases c4 : d < n'
                  · have k4 : decide ((d : Int) < (n' : Int)) = true := decide_eq_true (by omega)
                    have k4' : decide (d < n') = true := decide_eq_true c4
                    have wd1 := IntWalk.i64_in ((d : Int) + 1) (by omega)
                    obtain ⟨ov, rfl⟩ : ∃ ov : Value, ov = u6 := ⟨_, rfl⟩
                    have XQ := Lib.hid (SqAt.below X2.out hM4.out gB)
                    have HC2 := Lib.hid (HC.out wr r s c d (by omega) (by omega) (by omega) (by omega))
                    rw [SI.out r c (by omega) (by omega), SI.out s d (by omega) (by omega), SI.out r d (by omega) (by omega), SI.out s c (by omega) (by omega)] at HC2
                    have HL := Lib.hid (itL_len f nhi (r := r) (s := s) (c := c) (d := d) (by omega) (by omega) (by omega) (by omega))
                    have LD := Lib.hid (itL_d (n := n') f (r := r) (s := s) (c := c) (d := d) hd1)
                    have IY := Lib.hid (fun h => itc_yes (F := f) (r := r) (s := s) (c := c) (d := d) h)
                    have IN := Lib.hid (fun h => itc_no (F := f) (r := r) (s := s) (c := c) (d := d) h)
                    obtain ⟨t, ht⟩ : ∃ t, (f r c == f s d && f r d == f s c) = t := ⟨_, rfl⟩
                    rw [ht] at HC2 IY IN
                    clear ht
                    go_wp2_with fail
                    refine wp_load_row 52 (.tmp 4) rfl _ rfl _ _ _ _ XQ.out Try.underlying52 rfl (by rw [iar_size]; exact Try.infoSq) ?_
                    go_wp2_with fail
                    refine HC2.out.mono ?_
                    rintro e w5 ⟨rfl, b5⟩
                    have M5 := Lib.hid (hM4.out.trans (b5.mono hz4))
                    have R5 := Lib.hid (hR4.out.below b5 (Nat.le_refl _))
                    have z5 : wr.heap.size ≤ w5.heap.size := b5.size
                    have z6 : B ≤ w5.heap.size := by omega
                    clear b5 HC2 XQ
                    cases t with
                    | false =>
                      have R6 : Hid (RowsL w5 B w5.heap.size ov (itL n' f r s c (d + 1))) := by
                        unfold Hid; rw [LD.out, IN.out rfl, List.append_nil]
                        exact R5.out.mono (Nat.le_refl _) z5 (Nat.le_refl _)
                      clear R5 LD IN IY HL
                      go_wp2
                      go_roundw
                      case rel => exact ⟨d + 1, by omega, by omega, by go_num, R6, M5, z6⟩
                      case measure => simp [intOf]; omega
                    | true =>
                      have I5 : Ints (w5.alloc (.cells #[.int .i64 (r : Int), .int .i64 (s : Int), .int .i64 (c : Int), .int .i64 (d : Int)] 2)) w5.heap.size (.slice (some ⟨w5.heap.size, 0, none⟩) 4 4) [(r : Int), (s : Int), (c : Int), (d : Int)] :=
                        Ia.ints (q := 4) (c := fun i => [(r : Int), (s : Int), (c : Int), (d : Int)].getD i 0) (heap_alloc_new _ _) (Nat.le_refl _) (by decide)
                      have b6 : Below w5.heap.size w5 (w5.alloc (.cells #[.int .i64 (r : Int), .int .i64 (s : Int), .int .i64 (c : Int), .int .i64 (d : Int)] 2)) := (Below.refl _ _).alloc (Nat.le_refl _) _
                      have sb : (w5.alloc (.cells #[.int .i64 (r : Int), .int .i64 (s : Int), .int .i64 (c : Int), .int .i64 (d : Int)] 2)).heap.size = w5.heap.size + 1 := World.size_alloc _ _
                      obtain ⟨wb, hwb⟩ : ∃ wb, w5.alloc (.cells #[.int .i64 (r : Int), .int .i64 (s : Int), .int .i64 (c : Int), .int .i64 (d : Int)] 2) = wb := ⟨_, rfl⟩
                      rw [hwb] at I5 b6 sb
                      have R6 := Lib.hid ((R5.out.mono (L' := w5.heap.size) (Nat.le_refl B) z5 (Nat.le_refl _)).below b6 (Nat.le_refl _))
                      have J5 := Lib.hid I5
                      have M6 := Lib.hid (M5.out.trans (b6.mono z6))
                      have SB := Lib.hid sb
                      have lt := HL.out
                      rw [IY.out rfl] at LD
                      clear R5 I5 b6 IN IY sb
                      go_wp2_with (at_builtin; (try rw [hwb]); refine wpList_pushR wb (by rfl) _ _ (by rfl) B w5.heap.size _ _ _ _ (by rfl) R6.out J5.out _ (by first | rfl | (rw [SB.out]; rfl)) lt z6 ?_; intro v' w6 hn hb; have HN := Lib.hid hn; have HB6 := Lib.hid hb; clear hn hb)
                      go_roundw
                      case rel => exact ⟨d + 1, by omega, by omega, by go_num, by unfold Hid; rw [LD.out]; exact HN.out, M6.out.trans HB6.out, by have := M6.out.size; have := HB6.out.size; have := SB.out; omega⟩
                      case measure => simp [intOf]; omega
                  · have k4 : decide ((d : Int) < (n' : Int)) = false := decide_eq_false (by omega)
                    have k4' : decide (d < n') = false := decide_eq_false c4
                    obtain rfl : d = n' := by omega
                    rw [itL_c] at hR4
                    go_wp2
                    go_roundw
                    case rel => exact ⟨c + 1, by omega, by go_num, hR4, hM4, hz4⟩
                    case measure => simp [intOf]; omega
              · have k3 : decide ((c : Int) < (n' : Int)) = false := decide_eq_false (by omega)
                have k3' : decide (c < n') = false := decide_eq_false c3
                obtain rfl : c = n' := by omega
                rw [itL_s f hs1] at hR3
                go_wp2
                go_roundw
                case rel => exact ⟨s + 1, by omega, by omega, by go_num, hR3, hM3, hz3⟩
                case measure => simp [intOf]; omega
          · have k2 : decide ((s : Int) < (n' : Int)) = false := decide_eq_false (by omega)
            have k2' : decide (s < n') = false := decide_eq_false c2
            obtain rfl : s = n' := by omega
            rw [itL_r] at hR2
            go_wp2
            go_roundw
            case rel => exact ⟨r + 1, by omega, by go_num, hR2, hM2, hz2⟩
            case measure => simp [intOf]; omega
      · have k1 : decide ((r : Int) < (n' : Int)) = false := decide_eq_false (by omega)
        have k1' : decide (r < n') = false := decide_eq_false c1
        obtain rfl : r = n' := by omega
        rw [itL_end] at hR
        go_wp2
        go_ret2
        exact ⟨_, by rw [V.out.2]; rfl, by rw [V.out.1]; exact hR.out.mono WB (Nat.le_refl _) (Nat.le_refl _), B2.out.trans (hM.out.mono WB)⟩
end Go.Proofs.Ytekikbkafbpkkaa
