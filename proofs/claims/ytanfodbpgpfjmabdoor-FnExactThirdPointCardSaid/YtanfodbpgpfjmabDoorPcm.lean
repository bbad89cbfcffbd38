/- Pairs of points: the model. -/
import Derived.Test.YtanfodbpgpfjmabDoorRpm
import Derived.Test.YtanfodbpgpfjmabDoorPrc
import Derived.Test.YtanfodbpgpfjmabDoorHas
namespace Go.Proofs.YtanfodbpgpfjmabDoor
open Go.RowKit Go.Shelf
set_option linter.unusedVariables false
set_option linter.unusedSimpArgs false

set_option maxRecDepth 100000 in
set_option maxHeartbeats 2000000 in
theorem sPairs (n : Nat) (h1 : 1 ≤ n) (h32 : n ≤ 32) (xss : List (List Int)) (hm : xss.length ≤ 128) (w : World) (v : Value) (g : Nat) (c0 : w.cell? ⟨g, 0, none⟩ = some (.int .i64 (n : Int))) (c1 : w.cell? ⟨g, 1, none⟩ = some v) (hv : RowsAt w v xss) :
    Calls Tryd.prog 50 #[.pointer (some ⟨g, 0, none⟩)] w fun e w' => ∃ r, e = .returned r ∧ Ints w' w.heap.size r (prA n (prF xss.length (memP xss)) n) ∧ Below w.heap.size w w' := by
  obtain ⟨a, cap, rfl, K⟩ := hv.rowsIn
  obtain ⟨m, hmm⟩ : ∃ m, xss.length = m := ⟨_, rfl⟩
  obtain ⟨B, hB⟩ : ∃ B, w.heap.size = B := ⟨_, rfl⟩
  rw [hmm] at c1 K hm ⊢
  rw [hB] at K
  have lg : g < B := by rw [← hB]; exact World.block_lt_of_cell? w _ c0
  have HO : Hid (Ints (w.alloc (.cells #[] 2)) B (.slice (some ⟨B, 0, none⟩) 0 0) (prA n (prF m (memP xss)) 0)) := by
    rw [← hB]; exact World.ownsRow_made w #[] 0 (Nat.le_refl _) (by decide) rfl
  obtain ⟨w1, hw1⟩ : ∃ w1, w.alloc (.cells #[] 2) = w1 := ⟨_, rfl⟩
  have z1 : w1.heap.size = B + 1 := by rw [← hw1, World.size_alloc, hB]
  have B1 : Hid (Below B w w1) := by unfold Hid; rw [← hw1]; exact (Below.refl _ _).alloc (by omega) _
  rw [hw1] at HO
  have DC := Lib.hid (fun W (h : Below B w W) => And.intro (show W.cell? ⟨g, 0, none⟩ = some (.int .i64 (n : Int)) from (h.cell (p := ⟨g, 0, none⟩) lg).trans c0) (show W.cell? ⟨g, 1, none⟩ = some (.slice a m cap) from (h.cell (p := ⟨g, 1, none⟩) lg).trans c1))
  have HK : Hid (∀ W, Below B w W → ∀ j, j < m → ∃ g1 o1 u, a = some ⟨g1, o1, none⟩ ∧ W.cell? ⟨g1, o1 + j, none⟩ = some u ∧ ∀ x : Nat, Calls Tryd.prog 46 #[u, .int .i64 (x : Int)] W fun e w' => e = .returned (.bool (memP xss j x)) ∧ W = w') := fun W hW j hj => by
    obtain ⟨g1, o1, u, e1, e2, e3⟩ := K W hW j hj
    exact ⟨g1, o1, u, e1, e2, fun x => shas W u _ _ e3⟩
  obtain ⟨P, hP⟩ : ∃ P, memP xss = P := ⟨_, rfl⟩
  rw [hP] at HO HK ⊢
  have CS : Hid (∀ j x y, cnt (j + 1) (fun i => P i x && P i y) = cnt j (fun i => P i x && P i y) + if (P j x && P j y) = true then 1 else 0) := fun j x y => by rw [cnt]
  have CL : Hid (∀ j x y, cnt j (fun i => P i x && P i y) ≤ j) := fun j x y => cnt_le _ _
  have CZ : Hid (∀ x y, cnt 0 (fun i => P i x && P i y) = 0) := fun x y => rfl
  have CF : Hid (∀ x y, cnt m (fun i => P i x && P i y) = prF m P x y) := fun x y => rfl
  obtain ⟨q, hq⟩ : ∃ q : Nat → Nat → Nat → Nat, q = fun j x y => cnt j (fun i => P i x && P i y) := ⟨_, rfl⟩
  have CS2 : Hid (∀ j x y, q (j + 1) x y = q j x y + if (P j x && P j y) = true then 1 else 0) := fun j x y => by rw [hq]; exact CS.out j x y
  have CL2 : Hid (∀ j x y, q j x y ≤ j) := fun j x y => by rw [hq]; exact CL.out j x y
  have CZ2 : Hid (∀ x y, q 0 x y = 0) := fun x y => by rw [hq]; rfl
  have CF2 : Hid (∀ x y, q m x y = prF m P x y) := fun x y => by rw [hq]; rfl
  obtain ⟨f, hf⟩ : ∃ f, prF m P = f := ⟨_, rfl⟩
  rw [hf] at HO CF2 ⊢
  have SS := Lib.hid (fun a lo hi h => seg_succ f a lo hi h)
  have SN := Lib.hid (fun a lo => seg_nil f a lo)
  have PS : Hid (∀ a, prA n f (a + 1) = prA n f a ++ seg f a (a + 1) n) := fun a => rfl
  have LN : Hid (∀ a b, a < n → b ≤ n → (prA n f a ++ seg f a (a + 1) b).length < 1000000000000) := fun a b ha hb => by
    have l1 := prA_len n f a
    have l2 := seg_len f a (a + 1) b
    have l3 : a * n ≤ 32 * 32 := Nat.mul_le_mul (by omega) h32
    rw [List.length_append]; omega
  have HB := Lib.hid hB
  have BZ : Hid (∀ W, Below B w W → B ≤ W.heap.size) := fun W h => by have := h.size; omega
  clear hv K lg CS CL CZ CF hq hf hP hmm
  go_enter Tryd.func50, Tryd.ntmps50
  go_wp2
  try rw [hw1]
  try rw [hB]
  clear hw1 hB c0 c1 z1
  go_loopw [3, 4] (fun rv i wr => ∃ x : Nat, x ≤ n ∧ i = .int .i64 x ∧ Hid (Ints wr B rv (prA n f x)) ∧ Hid (Below B w wr)) (fun _ i _ => n - (intOf i).toNat)
  case atStart => exact ⟨0, by omega, rfl, HO, B1⟩
  case round =>
    obtain ⟨x, hx, rfl, hI, hBl⟩ := hrel
    obtain ⟨c0, c1⟩ := DC.out wr hBl.out
    by_cases cx : x < n
    · have k1 : decide (x < n) = true := by simpa using cx
      have k1' : decide ((x : Int) < (n : Int)) = true := decide_eq_true (by omega)
      have w3 := IntWalk.i64_in ((x : Int) + 1) (by omega)
      have I1 : Hid (Ints wr B u3 (prA n f x ++ seg f x (x + 1) (x + 1))) := by rw [SN.out, List.append_nil]; exact hI
      obtain ⟨wq, rfl⟩ : ∃ wq : World, wq = wr := ⟨_, rfl⟩
      go_wp2
      clear c0 c1
      go_loopw [3, 5] (fun rv i wr => ∃ y : Nat, x + 1 ≤ y ∧ y ≤ n ∧ i = .int .i64 y ∧ Hid (Ints wr B rv (prA n f x ++ seg f x (x + 1) y)) ∧ Hid (Below B w wr)) (fun _ i _ => n - (intOf i).toNat)
      case atStart => exact ⟨x + 1, by omega, by omega, by go_num, I1, hBl⟩
      case round =>
        obtain ⟨y, hy1, hy, rfl, hI2, hB2⟩ := hrel
        obtain ⟨c0, c1⟩ := DC.out wr hB2.out
        by_cases cy : y < n
        · have k2 : decide (y < n) = true := by simpa using cy
          have k2' : decide ((y : Int) < (n : Int)) = true := decide_eq_true (by omega)
          have w4 := IntWalk.i64_in ((y : Int) + 1) (by omega)
          have SY := Lib.hid (SS.out x (x + 1) y hy1)
          have LL := LN.out x y cx (by omega)
          have QZ := Lib.hid (CZ2.out x y)
          have QF := Lib.hid (CF2.out x y)
          obtain ⟨wq2, rfl⟩ : ∃ wq : World, wq = wr := ⟨_, rfl⟩
          go_wp2
          clear c0 c1
          go_loopw [6, 7] (fun c i wr => ∃ j : Nat, j ≤ m ∧ i = .int .i64 j ∧ c = .int .i64 (q j x y : Nat) ∧ Hid (Ints wr B u3 (prA n f x ++ seg f x (x + 1) y)) ∧ Hid (Below B w wr)) (fun _ i _ => m - (intOf i).toNat)
          case atStart => exact ⟨0, by omega, rfl, by rw [QZ.out]; rfl, hI2, hB2⟩
          case round =>
            obtain ⟨j, hj, rfl, rfl, hI3, hB3⟩ := hrel
            obtain ⟨c0, c1⟩ := DC.out wr hB3.out
            by_cases cj : j < m
            · have k3 : decide (j < m) = true := by simpa using cj
              have k3' : decide ((j : Int) < (m : Int)) = true := decide_eq_true (by omega)
              have w5 := IntWalk.i64_in ((j : Int) + 1) (by omega)
              have j0 : (0 : Int) ≤ (j : Int) := by omega
              have j1 : (j : Int) < (m : Int) := by omega
              obtain ⟨g1, o1, ur, rfl, e2, hc⟩ := HK.out wr hB3.out j cj
              have h1 := Lib.hid (hc x)
              have h2 := Lib.hid (hc y)
              have QS := CS2.out j x y
              have QL := CL2.out j x y
              obtain ⟨t, ht⟩ : ∃ t, q j x y = t := ⟨_, rfl⟩
              rw [ht] at QS QL ⊢
              have w6 := IntWalk.i64_in ((t : Int) + 1) (by omega)
              obtain ⟨b1, hb1⟩ : ∃ b, P j x = b := ⟨_, rfl⟩
              obtain ⟨b2, hb2⟩ : ∃ b, P j y = b := ⟨_, rfl⟩
              rw [hb1] at h1 QS
              rw [hb2] at h2 QS
              have HT := Lib.hid ht
              clear hc hb1 hb2 ht
              cases b1 with
              | false =>
                have QS2 : Hid (q (j + 1) x y = t) := by unfold Hid; simpa using QS
                clear QS QL h2
                go_wp2_with fail
                refine h1.out.mono ?_
                rintro e w9 ⟨rfl, rfl⟩
                go_wp2
                go_roundw
                case rel => exact ⟨j + 1, by omega, by go_num, by rw [QS2.out], hI3, hB3⟩
                case measure => simp [intOf]; omega
              | true =>
                cases b2 with
                | false =>
                  have QS2 : Hid (q (j + 1) x y = t) := by unfold Hid; simpa using QS
                  clear QS QL
                  go_wp2_with fail
                  refine h1.out.mono ?_
                  rintro e w9 ⟨rfl, rfl⟩
                  go_wp2_with fail
                  refine h2.out.mono ?_
                  rintro e w9 ⟨rfl, rfl⟩
                  go_wp2
                  go_roundw
                  case rel => exact ⟨j + 1, by omega, by go_num, by rw [QS2.out], hI3, hB3⟩
                  case measure => simp [intOf]; omega
                | true =>
                  have QS2 : Hid (q (j + 1) x y = t + 1) := by unfold Hid; simpa using QS
                  clear QS QL
                  go_wp2_with fail
                  refine h1.out.mono ?_
                  rintro e w9 ⟨rfl, rfl⟩
                  go_wp2_with fail
                  refine h2.out.mono ?_
                  rintro e w9 ⟨rfl, rfl⟩
                  go_wp2
                  go_roundw
                  case rel => exact ⟨j + 1, by omega, by go_num, by rw [QS2.out]; go_num, hI3, hB3⟩
                  case measure => simp [intOf]; omega
            · have k3 : decide (j < m) = false := by simpa using cj
              have k3' : decide ((j : Int) < (m : Int)) = false := decide_eq_false (by omega)
              obtain rfl : j = m := by omega
              obtain ⟨t, ht⟩ : ∃ t, q j x y = t := ⟨_, rfl⟩
              have zr := BZ.out wr hB3.out
              have QF2 : Hid (f x y = t) := by unfold Hid; rw [← QF.out, ht]
              rw [ht]
              clear ht
              go_wp2_with (at_builtin; refine wpList_push wr (by rfl) _ _ (by rfl) B _ _ (by rfl) hI3.out (t : Int) _ (by rfl) LL zr ?_; intro v' w8 hn hb; have HN := Lib.hid hn; have HB8 := Lib.hid hb; clear hn hb)
              go_roundw
              case rel => exact ⟨y + 1, by omega, by omega, by go_num, by unfold Hid; rw [SY.out, QF2.out, ← List.append_assoc]; exact HN.out, by exact hB3.out.trans (HB8.out)⟩
              case measure => simp [intOf]; omega
        · have k2 : decide (y < n) = false := by simpa using cy
          have k2' : decide ((y : Int) < (n : Int)) = false := decide_eq_false (by omega)
          obtain rfl : y = n := by omega
          rw [← PS.out] at hI2
          go_wp2
          go_roundw
          case rel => exact ⟨x + 1, by omega, by go_num, hI2, hB2⟩
          case measure => simp [intOf]; omega
    · have k1 : decide (x < n) = false := by simpa using cx
      have k1' : decide ((x : Int) < (n : Int)) = false := decide_eq_false (by omega)
      obtain rfl : x = n := by omega
      go_wp2
      go_ret
      exact ⟨_, rfl, by rw [HB.out]; exact hI.out, by rw [HB.out]; exact hBl.out⟩
end Go.Proofs.YtanfodbpgpfjmabDoor
