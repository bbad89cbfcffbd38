/- The model of a copy of rows of a square. -/
import Derived.Test.YtodlcjdbpibacaaMvd
import Derived.Test.YtodlcjdbpibacaaRowc
import Derived.Test.YtodlcjdbpibacaaLim
import Derived.Deep.MidRow
namespace Go.Proofs.Ytodlcjdbpibacaa
open Go.RowKit Go.Shelf
set_option linter.unusedVariables false

theorem takeQ {xss : List (List Int)} {j : Nat} (h : j < xss.length) : xss.take (j + 1) = xss.take j ++ [xss.getD j []] := by
  rw [List.take_succ_eq_append_getElem h]
  simp [List.getD, List.getElem?_eq_getElem h]

set_option maxRecDepth 100000 in
set_option maxHeartbeats 8000000 in
theorem sOwn6 (w : World) (v : Value) (xss : List (List Int)) (n : Nat) (hn : xss.length = n) (h10 : n ≤ 10) (hr : ∀ x, x < n → (xss.getD x []).length = n) (hv : RowsAt w v xss) :
    Calls Try.prog 17 #[v] w fun e w' => ∃ r, e = .returned r ∧ RowsL w' w.heap.size w'.heap.size r xss ∧ Below w.heap.size w w' := by
  obtain ⟨a, cap, rfl, hk, hc⟩ := hv.cellsOf
  have hml := hv.1
  have HC := Lib.hid hc
  have TK : Hid (∀ j, j < xss.length → xss.take (j + 1) = xss.take j ++ [xss.getD j []]) := fun j h => takeQ h
  have TL : Hid (∀ j, j ≤ xss.length → (xss.take j).length = j) := fun j h => by rw [List.length_take]; omega
  have TA : Hid (xss.take xss.length = xss) := List.take_length
  have HR := Lib.hid hr
  rw [hn] at HC TK TL TA hml hk ⊢
  obtain ⟨B, hB⟩ : ∃ B, w.heap.size = B := ⟨_, rfl⟩
  have bo : Below B w (w.alloc (.cells #[] 23)) := (Below.refl _ _).alloc (by omega) _
  have R0 : RowsL (w.alloc (.cells #[] 23)) B (w.alloc (.cells #[] 23)).heap.size (.slice (some ⟨B, 0, none⟩) 0 0) (xss.take 0) := by
    have := RowsL.made w B 0 #[] (by omega) (by decide) rfl
    rw [hB] at this
    rw [World.size_alloc, hB]
    exact this
  obtain ⟨wo, hwo⟩ : ∃ wo, w.alloc (.cells #[] 23) = wo := ⟨_, rfl⟩
  rw [hwo] at bo R0
  have BO := Lib.hid bo
  have RO := Lib.hid R0
  have zo : B ≤ wo.heap.size := by rw [← hwo, World.size_alloc]; omega
  have HW := Lib.hid hB
  rw [hB] at HC
  clear hv hc hr hn bo R0
  go_enter Try.func17, Try.ntmps17
  go_wp2
  clear hwo hB
  go_loopw [3, 4] (fun rv i wr => ∃ j : Nat, j ≤ n ∧ i = .int .i64 j ∧ Hid (RowsL wr B wr.heap.size rv (xss.take j)) ∧ Hid (Below B w wr) ∧ B ≤ wr.heap.size) (fun _ i _ => n - (intOf i).toNat)
  case atStart => exact ⟨0, by omega, rfl, RO, BO, zo⟩
  case round =>
    obtain ⟨j, hj, rfl, hR, hBl, hz⟩ := hrel
    by_cases c : j < n
    · have k1 : decide (j < n) = true := by simpa using c
      have k1' : decide ((j : Int) < (n : Int)) = true := decide_eq_true (by omega)
      have wx3 := IntWalk.i64_in ((j : Int) + 1) (by omega)
      have j0 : (0 : Int) ≤ (j : Int) := by omega
      have j1 : (j : Int) < (n : Int) := by omega
      obtain ⟨g, off, u, rfl, hg, cj, hu⟩ := HC.out j c
      have cj2 := (hBl.out.cell (p := ⟨g, off + j, none⟩) hg).trans cj
      have HS := Lib.hid (sown_at wr u _ (hu.below hBl.out (by rw [HW.out]; exact Nat.le_refl _)).1 (by rw [HR.out j c]; omega))
      have tk := Lib.hid (TK.out j c)
      have gl := TL.out j (by omega)
      obtain ⟨R, hRR⟩ : ∃ R, xss.getD j [] = R := ⟨_, rfl⟩
      rw [hRR] at HS tk
      clear cj hu hg hRR
      obtain ⟨ov, rfl⟩ : ∃ ov : Value, ov = u3 := ⟨_, rfl⟩
      obtain ⟨wc, rfl⟩ : ∃ wc : World, wc = wr := ⟨_, rfl⟩
      go_wp2_with fail
      refine HS.out.mono ?_
      rintro e w4 ⟨r, rfl, i4, b4⟩
      obtain ⟨ra, rc, rfl⟩ := Ints.len_eq i4
      have I4 := Lib.hid i4
      have R4 := Lib.hid (hR.out.below b4 (Nat.le_refl _))
      have B4 : Hid (Below B w w4) := hBl.out.trans (b4.mono hz)
      have z4 : B ≤ w4.heap.size := Nat.le_trans hz b4.size
      have hz4 : wc.heap.size ≤ w4.heap.size := b4.size
      clear i4 b4
      go_wp2_with (at_builtin; refine wpList_pushR w4 (by rfl) _ _ (by rfl) B wc.heap.size _ _ _ _ (by rfl) R4.out I4.out _ (by rfl) (by rw [gl]; omega) hz ?_; intro v' w6 hn hb; have HN := Lib.hid hn; have HB6 := Lib.hid hb; clear hn hb)
      go_roundw
      case rel => exact ⟨j + 1, by omega, by go_num, by unfold Hid; rw [tk.out]; exact HN.out, B4.out.trans HB6.out, Nat.le_trans z4 HB6.out.size⟩
      case measure => simp [intOf]; omega
    · have k1 : decide (j < n) = false := by simpa using c
      have k1' : decide ((j : Int) < (n : Int)) = false := decide_eq_false (by omega)
      obtain rfl : j = n := by omega
      have hR' := hR.out
      rw [TA.out] at hR'
      have RR := Lib.hid hR'
      clear hR'
      go_wp2
      go_ret
      exact ⟨_, rfl, by rw [HW.out]; exact RR.out, by rw [HW.out]; exact hBl.out⟩

end Go.Proofs.Ytodlcjdbpibacaa
