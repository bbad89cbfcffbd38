/- Whether a number is in a list: the model; a copy by append, of any slice. -/
import Derived.Test.YtanfodbpgpfjmabDoorArg
import Derived.Laws.AppendOwnNone
namespace Go.Proofs.YtanfodbpgpfjmabDoor
open Go.RowKit
set_option linter.unusedVariables false

theorem takeI_getD {xs : List Int} {j : Nat} (h : j < xs.length) : xs.take (j + 1) = xs.take j ++ [xs.getD j 0] := by
  rw [List.take_succ_eq_append_getElem h]
  simp [List.getD, List.getElem?_eq_getElem h]
theorem shas (w : World) (v : Value) (xs : List Int) (n : Int) (hv : IntsAt w v xs) :
    Calls Tryd.prog 46 #[v, .int .i64 n] w fun e w' => e = .returned (.bool (decide (n ∈ xs))) ∧ w = w' := by
  obtain ⟨m, hm⟩ : ∃ m, xs.length = m := ⟨_, rfl⟩
  obtain ⟨a, cap, rfl, hc⟩ : ∃ a cap, v = .slice a m cap ∧ ∀ j, j < m → ∃ g off, a = some ⟨g, off, none⟩ ∧ w.cell? ⟨g, off + j, none⟩ = some (.int .i64 (xs.getD j 0)) := by
    obtain ⟨_, ⟨rfl, a, cap, rfl⟩ | ⟨g, off, cap, rfl, hc⟩⟩ := hv
    · rw [← hm]; exact ⟨a, cap, rfl, fun j hj => by simp at hj⟩
    · rw [hm]; exact ⟨_, cap, rfl, fun j hj => ⟨g, off, rfl, hc j (by omega)⟩⟩
  have hml : m ≤ 9223372036854775807 := by rw [← hm]; exact hv.1
  have HC := Lib.hid hc
  have HM := Lib.hid hm
  clear hv hc hm
  go_enter Tryd.func46, Tryd.ntmps46
  go_wp2
  go_loop [5] (fun i => ∃ j : Nat, j ≤ m ∧ i = .int .i64 j ∧ Hid (n ∉ xs.take j)) (fun i => m - (intOf i).toNat)
  case atStart => exact ⟨0, by omega, rfl, by simp [Hid]⟩
  case round =>
    obtain ⟨j, hj, rfl, hN⟩ := hrel
    by_cases c : j < m
    · have g1 : decide (j < m) = true := by simpa using c
      obtain ⟨g, off, rfl, cj⟩ := HC.out j c
      have hj' : j < xs.length := by rw [HM.out]; exact c
      obtain ⟨x, hx⟩ : ∃ x, xs.getD j 0 = x := ⟨_, rfl⟩
      have TK := Lib.hid (takeI_getD hj')
      rw [hx] at cj TK
      have j0 : (0 : Int) ≤ (j : Int) := by omega
      have j1 : (j : Int) < (m : Int) := by omega
      have w3 := IntWalk.i64_in ((j : Int) + 1) (by omega)
      by_cases e : x = n
      · have g2 : (x == n) = true := by simpa using e
        have V : Hid (decide (n ∈ xs) = true) := by
          refine decide_eq_true ?_
          have : n ∈ xs.take (j + 1) := by rw [TK.out, e]; simp
          exact List.mem_of_mem_take this
        clear hx e
        go_wp2
        go_ret
        exact ⟨by rw [V.out]; rfl, rfl⟩
      · have g2 : (x == n) = false := by simpa using e
        have V : Hid (n ∉ xs.take (j + 1)) := by
          unfold Hid
          rw [TK.out, List.mem_append, List.mem_singleton]
          rintro (h | h)
          · exact hN.out h
          · exact e h.symm
        clear hx e
        go_wp2
        go_round
        case rel => exact ⟨j + 1, by omega, by go_num, V⟩
        case measure => simp [intOf]; omega
    · have g1 : decide (j < m) = false := by simpa using c
      have V : Hid (decide (n ∈ xs) = false) := by
        refine decide_eq_false ?_
        have := hN.out
        rwa [show j = xs.length by have := HM.out; omega, List.take_length] at this
      go_wp2
      go_ret
      exact ⟨by rw [V.out]; rfl, rfl⟩


end Go.Proofs.YtanfodbpgpfjmabDoor
