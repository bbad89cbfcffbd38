/- ComplementDesign: the model. -/
import Derived.Test.YtdhlnagkhkcoiaaGreatDoorDsm
import Derived.Test.YtdhlnagkhkcoiaaGreatDoorInc
import Derived.Test.YtdhlnagkhkcoiaaGreatDoorUs
namespace Go.Proofs.YtdhlnagkhkcoiaaGreatDoor
open Go.RowKit Go.Shelf
set_option linter.unusedVariables false
set_option linter.unusedSimpArgs false

/-- The point x does not stand in the block i. -/
def coB (xss : List (List Int)) (i x : Nat) : Bool := !decide ((x : Int) ∈ xss.getD i [])
noncomputable def ComplementDesign_N (n : Int) (xss : List (List Int)) : Int := if desB n xss then dxN n (setsL xss.length n.toNat (coB xss)) else 0
noncomputable def ComplementDesign_L (n : Int) (xss : List (List Int)) : List (List Int) := if desB n xss then dxL (setsL xss.length n.toNat (coB xss)) else []
noncomputable def ComplementDesign_C (n : Int) (xss : List (List Int)) : Int := if desB n xss then dxC (setsL xss.length n.toNat (coB xss)) else 1
theorem com_no {n : Int} {xss : List (List Int)} (h : desB n xss = false) : ComplementDesign_N n xss = 0 ∧ ComplementDesign_L n xss = [] ∧ ComplementDesign_C n xss = 1 := by
  unfold ComplementDesign_N ComplementDesign_L ComplementDesign_C; rw [h]; exact ⟨rfl, rfl, rfl⟩
theorem com_yes {n : Int} {xss : List (List Int)} (h : desB n xss = true) : ComplementDesign_N n xss = dxN n (setsL xss.length n.toNat (coB xss)) ∧ ComplementDesign_L n xss = dxL (setsL xss.length n.toNat (coB xss)) ∧ ComplementDesign_C n xss = dxC (setsL xss.length n.toNat (coB xss)) := by
  unfold ComplementDesign_N ComplementDesign_L ComplementDesign_C; rw [h]; exact ⟨rfl, rfl, rfl⟩
theorem totComplementDesign (n : Int) (xss : List (List Int)) : tot (ComplementDesign_L n xss) ≤ 5000 := by
  unfold ComplementDesign_L
  split
  · rename_i h
    have d := of_desB h
    have a := (dxL_tot (setsL xss.length n.toNat (coB xss))).1
    have b := setsL_tot xss.length n.toNat (coB xss)
    have c : xss.length * n.toNat ≤ 128 * 32 := Nat.mul_le_mul d.2.2.1 (by have := d.2.1; omega)
    omega
  · simp [tot]
/-- All points without those of a block. -/
theorem cmb_all {N : Nat} {n : Int} {ys : List Int} (hn : n = N) (h32 : N ≤ 32) (h : Rises 0 (n - 1) ys) : cmbA (fun a b => a && !b) (fls N (fun _ => true)) ys = fls N (fun x => !decide ((x : Int) ∈ ys)) := by
  subst hn
  unfold cmbA
  rw [if_pos (by rw [Bool.and_eq_true]; unfold validSet; rw [risesB_true (rises_wider (fls_rises N _) (by omega)), risesB_true (rises_wider h (by omega))]; exact ⟨rfl, rfl⟩)]
  refine sorted_ext _ _ (fls_sorted _ _) (fls_sorted _ _) fun z => ?_
  rw [fls_mem, fls_mem]
  constructor
  · rintro ⟨k, h1, h2, rfl⟩
    simp only [Bool.and_eq_true] at h2
    obtain ⟨k', h3, -, e⟩ := (fls_mem N _ _).1 (of_decide_eq_true h2.1)
    exact ⟨k, by omega, h2.2, rfl⟩
  · rintro ⟨k, h1, h2, rfl⟩
    exact ⟨k, by omega, by rw [Bool.and_eq_true]; exact ⟨decide_eq_true ((fls_mem N _ _).2 ⟨k, h1, rfl, rfl⟩), h2⟩, rfl⟩

set_option maxHeartbeats 1000000 in
theorem sAllP (N : Nat) (h32 : N ≤ 32) (w : World) : Calls Tryz.prog 57 #[.int .i64 (N : Int)] w fun e w' => ∃ v, e = .returned v ∧ Ints w' w.heap.size v (fls N (fun _ => true)) ∧ Below w.heap.size w w' := by
  obtain ⟨B, hB⟩ : ∃ B, w.heap.size = B := ⟨_, rfl⟩
  have I0 : Hid (Ints (w.alloc (.cells #[] 2)) B (.slice (some ⟨B, 0, none⟩) 0 0) (fls 0 (fun _ => true))) := by
    rw [← hB]; exact World.ownsRow_made w #[] 0 (Nat.le_refl _) (by decide) rfl
  have B0 : Hid (Below B w (w.alloc (.cells #[] 2))) := by unfold Hid; rw [← hB]; exact (Below.refl _ _).alloc (Nat.le_refl _) _
  have RS : Hid (∀ j, fls (j + 1) (fun _ => true) = fls j (fun _ => true) ++ [(j : Int)]) := fun j => by rw [fls_succ]; simp
  have RL : Hid (∀ j, (fls j (fun _ => true)).length ≤ j) := fun j => fls_len j _
  have HB := Lib.hid hB
  go_enter Tryz.func57, Tryz.ntmps57
  go_wp2
  clear hB
  go_loopw [3, 4] (fun rv i wr => ∃ j : Nat, j ≤ N ∧ i = .int .i64 j ∧ Hid (Ints wr B rv (fls j (fun _ => true))) ∧ Hid (Below B w wr)) (fun _ i _ => N - (intOf i).toNat)
  case atStart => exact ⟨0, by omega, rfl, I0, B0⟩
  case round =>
    obtain ⟨j, hj, rfl, hI, hB6⟩ := hrel
    by_cases cj : j < N
    · have k3 : decide (j < N) = true := by simpa using cj
      have k3' : decide ((j : Int) < (N : Int)) = true := decide_eq_true (by omega)
      have w5 := IntWalk.i64_in ((j : Int) + 1) (by omega)
      have LJ : (fls j (fun _ => true)).length < 1000000000000 := by have := RL.out j; omega
      have SJ := Lib.hid (RS.out j)
      have nz : B ≤ wr.heap.size := by have := hB6.out.size; have := HB.out; omega
      go_wp2_with (at_builtin; refine wpList_push wr (by rfl) _ _ (by rfl) B _ _ (by rfl) hI.out (j : Int) _ (by rfl) LJ nz ?_; intro v' w8 hn hb; have HN := Lib.hid hn; have HB8 := Lib.hid hb; clear hn hb)
      go_roundw
      case rel => exact ⟨j + 1, by omega, by go_num, by unfold Hid; rw [SJ.out]; exact HN.out, hB6.out.trans HB8.out⟩
      case measure => simp [intOf]; omega
    · have k3 : decide (j < N) = false := by simpa using cj
      have k3' : decide ((j : Int) < (N : Int)) = false := decide_eq_false (by omega)
      obtain rfl : j = N := by omega
      obtain ⟨ra, rc, rfl⟩ := hI.out.len_eq
      go_wp2
      go_ret
      exact ⟨_, rfl, by rw [HB.out]; exact hI.out, by rw [HB.out]; exact hB6.out⟩

end Go.Proofs.YtdhlnagkhkcoiaaGreatDoor
