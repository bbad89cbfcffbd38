/- TripleOrders: both sides. -/
import Derived.Test.YtanfodbpgpfjmaaDoorSl
import Derived.Test.YtanfodbpgpfjmaaDoorArg
namespace Go.Proofs.YtanfodbpgpfjmaaDoor
open Go.RowKit
set_option linter.unusedVariables false
set_option linter.unusedSimpArgs false

/-- The numbers of points, less than j. -/
def tol : Nat → List Int
  | 0 => []
  | j + 1 => tol j ++ if 3 ≤ j ∧ (j % 6 = 1 ∨ j % 6 = 3) then [(j : Int)] else []
theorem tol_all : tol 28 = [3, 7, 9, 13, 15, 19, 21, 25, 27] := by decide
theorem tol_len : ∀ n, (tol n).length ≤ n
  | 0 => by simp [tol]
  | n + 1 => by
    have := tol_len n
    rw [tol, List.length_append]
    split <;> simp <;> omega
theorem tol_yes {j : Nat} (h3 : 3 ≤ j) (h : j % 6 = 1 ∨ j % 6 = 3) : tol (j + 1) = tol j ++ [(j : Int)] := by rw [tol, if_pos ⟨h3, h⟩]
theorem tol_no {j : Nat} (h : ¬ (j % 6 = 1 ∨ j % 6 = 3)) : tol (j + 1) = tol j := by rw [tol, if_neg (fun c => h c.2), List.append_nil]

set_option maxRecDepth 100000 in
theorem sTripleOrders (w : World) :
    Calls Tryd.prog 25 #[] w fun e w' => ∃ v, e = .returned v ∧ Ints w' w.heap.size v (tol 28) ∧ Below w.heap.size w w' := by
  rw [tol_all]
  have O := World.ownsRow_lit (base := w.heap.size) (e := 2) (size := 1) w #[.int .i64 3, .int .i64 7, .int .i64 9, .int .i64 13, .int .i64 15, .int .i64 19, .int .i64 21, .int .i64 25, .int .i64 27] 9 (Nat.le_refl _) (by unfold maxLen; omega) (by rfl)
  go_enter Tryd.func25, Tryd.ntmps25
  go_wp2
  go_ret
  exact ⟨_, rfl, O, (Below.refl _ _).alloc (Nat.le_refl _) _⟩

set_option maxRecDepth 100000 in
set_option maxHeartbeats 1000000 in
theorem iTripleOrders (w : World) :
    Calls Tryd.prog 28 #[] w fun e w' => ∃ v, e = .returned v ∧ Ints w' w.heap.size v (tol 28) ∧ Below w.heap.size w w' := by
  obtain ⟨B, hB⟩ : ∃ B, w.heap.size = B := ⟨_, rfl⟩
  have HI : Hid (Ints w B (.slice none 0 0) (tol 3)) := by rw [show tol 3 = [] by decide]; exact World.ownsRow_nil _ _ _ _
  have HE := Lib.hid hB
  rw [hB]
  clear hB
  go_enter Tryd.func28, Tryd.ntmps28
  go_wp2
  go_loopw [1, 2] (fun v i wr => ∃ j : Nat, 3 ≤ j ∧ j ≤ 28 ∧ i = .int .i64 j ∧ Hid (Ints wr B v (tol j)) ∧ Hid (Below B w wr)) (fun _ i _ => 28 - (intOf i).toNat)
  case atStart => exact ⟨3, by omega, by omega, rfl, HI, Below.refl _ _⟩
  case round =>
    obtain ⟨j, j1, j2, rfl, hI, hBl⟩ := hrel
    have s2 : B ≤ wr.heap.size := by have := hBl.out.size; have := HE.out; omega
    by_cases c : j ≤ 27
    · have w1 := IntWalk.i64_in ((j : Int) + 1) (by omega)
      have k1 : decide (j ≤ 27) = true := decide_eq_true c
      have k2 : decide ((j : Int) ≤ 27) = true := decide_eq_true (by omega)
      have hlen := tol_len j
      have hr : Int.tmod (j : Int) 6 = ((j % 6 : Nat) : Int) := rfl
      obtain ⟨r, hrr⟩ : ∃ r, j % 6 = r := ⟨_, rfl⟩
      have r6 : r < 6 := by omega
      rw [hrr] at hr
      have w2 := IntWalk.i64_in (r : Int) (by omega)
      have YES := Lib.hid (fun h => tol_yes (j := j) j1 h)
      have NO := Lib.hid (fun h => tol_no (j := j) h)
      rw [hrr] at YES NO
      clear hrr
      by_cases h1 : r = 1
      · subst h1
        have HO := Lib.hid (YES.out (.inl rfl))
        go_wp2_with (at_builtin; refine wpList_push wr (by rfl) _ _ (by rfl) B _ _ (by rfl) hI.out (j : Int) _ (by rfl) (by omega) s2 ?_; intro v' w3 hn hb; have HN' := Lib.hid hn; have HB2 := Lib.hid hb; clear hn hb)
        go_roundw
        case rel => exact ⟨j + 1, by omega, by omega, by go_num, by rw [HO.out]; exact HN', hBl.out.trans HB2.out⟩
        case measure => simp [intOf]; omega
      · by_cases h3 : r = 3
        · subst h3
          have HO := Lib.hid (YES.out (.inr rfl))
          go_wp2_with (at_builtin; refine wpList_push wr (by rfl) _ _ (by rfl) B _ _ (by rfl) hI.out (j : Int) _ (by rfl) (by omega) s2 ?_; intro v' w3 hn hb; have HN' := Lib.hid hn; have HB2 := Lib.hid hb; clear hn hb)
          go_roundw
          case rel => exact ⟨j + 1, by omega, by omega, by go_num, by rw [HO.out]; exact HN', hBl.out.trans HB2.out⟩
          case measure => simp [intOf]; omega
        · have HO := Lib.hid (NO.out (by omega))
          have t1 : ((r : Int) == 1) = false := by simp; omega
          have t3 : ((r : Int) == 3) = false := by simp; omega
          have t1' : (r == 1) = false := by simpa using h1
          have t3' : (r == 3) = false := by simpa using h3
          clear h1 h3
          go_wp2
          go_roundw
          case rel => exact ⟨j + 1, by omega, by omega, by go_num, by rw [HO.out]; exact hI, hBl⟩
          case measure => simp [intOf]; omega
    · obtain rfl : j = 28 := by omega
      go_wp2
      go_ret
      exact ⟨_, rfl, hI.out, hBl.out⟩
end Go.Proofs.YtanfodbpgpfjmaaDoor
