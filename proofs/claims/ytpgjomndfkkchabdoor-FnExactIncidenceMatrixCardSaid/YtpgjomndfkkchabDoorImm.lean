/- IncidenceMatrix: the model. -/
import Derived.Test.YtpgjomndfkkchabDoorInd
import Derived.Test.YtpgjomndfkkchabDoorDok
import Derived.Test.YtpgjomndfkkchabDoorHas
import Derived.Test.YtpgjomndfkkchabDoorGrd
import Derived.Test.YtpgjomndfkkchabDoorDst
namespace Go.Proofs.YtpgjomndfkkchabDoor
open Go.RowKit Go.Shelf
set_option linter.unusedVariables false
set_option linter.unusedSimpArgs false

/-- 1 where the point x stands in the block i. -/
def inF (xss : List (List Int)) (x i : Nat) : Int := if decide ((x : Int) ∈ xss.getD i []) = true then 1 else 0
noncomputable def IncidenceMatrix_0 (n : Int) (xss : List (List Int)) : List (List Int) := if desB n xss = true then gridL n.toNat xss.length (inF xss) else []
noncomputable def IncidenceMatrix_1 (n : Int) (xss : List (List Int)) : Int := if desB n xss = true then 0 else 1
theorem lenIncidenceMatrix_0 (n : Int) (xss : List (List Int)) : tot (IncidenceMatrix_0 n xss) ≤ 2000000 := by
  unfold IncidenceMatrix_0
  split
  · rename_i h
    have := of_desB h
    rw [tot_gridL]
    have h1 := this.2.1
    have h2 := this.2.2.1
    have l3 : n.toNat * xss.length ≤ 32 * 128 := Nat.mul_le_mul (by omega) (by omega)
    omega
  · simp [tot]
theorem rowf_snoc (f : Nat → Int) (j : Nat) : (List.range (j + 1)).map f = (List.range j).map f ++ [f j] := by simp [List.range_succ]

set_option maxRecDepth 100000 in
set_option maxHeartbeats 2000000 in
theorem sIncidenceMatrix (n : Int) (xss : List (List Int)) (W : World) (v : Value) (hv : RowsAt W v xss) :
    Calls Tryd.prog 28 #[.agg #[.int .i64 n, v]] W fun e w' => ∃ r, e = .returned (.tuple #[r, .int .i64 (IncidenceMatrix_1 n xss)]) ∧ RowsAt w' r (IncidenceMatrix_0 n xss) ∧ Below W.heap.size W w' := by
  obtain ⟨a, cap, rfl, K⟩ := hv.rowsIn
  obtain ⟨m, hm⟩ : ∃ m, xss.length = m := ⟨_, rfl⟩
  rw [hm] at hv K ⊢
  obtain ⟨B, hB⟩ : ∃ B, W.heap.size = B := ⟨_, rfl⟩
  rw [hB] at K
  obtain ⟨w1, hw1⟩ : ∃ w1, W.alloc (.cells #[.int .i64 n, .slice a m cap] 26) = w1 := ⟨_, rfl⟩
  have z1 : w1.heap.size = B + 1 := by rw [← hw1, World.size_alloc, hB]
  have b1 : Below B W w1 := by rw [← hw1]; exact (Below.refl _ _).alloc (by omega) _
  have A1 : w1.heap[B]? = some (.cells #[.int .i64 n, .slice a m cap] 26 (0, 0)) := by rw [← hw1, ← hB]; exact heap_alloc_new _ _
  have c0 : w1.cell? ⟨B, 0, none⟩ = some (.int .i64 n) := by rw [cell_of_row w1 B 0 _ _ _ A1]; rfl
  have c1 : w1.cell? ⟨B, 1, none⟩ = some (.slice a m cap) := by rw [cell_of_row w1 B 1 _ _ _ A1]; rfl
  have HO := Lib.hid (sOk n xss w1 _ B c0 c1 (hv.below b1 (by omega)))
  have HB := Lib.hid hB
  have B1 := Lib.hid b1
  cases hp : desB n xss with
  | false =>
    have V : Hid (IncidenceMatrix_0 n xss = [] ∧ IncidenceMatrix_1 n xss = 1) := by unfold Hid IncidenceMatrix_0 IncidenceMatrix_1; rw [hp]; exact ⟨rfl, rfl⟩
    rw [hp] at HO
    clear hp hv c0 c1 A1 b1 K
    go_enter Tryd.func28, Tryd.ntmps28
    go_wp2_with fail
    refine HO.out.mono ?_
    rintro e w2 ⟨rfl, d, rfl⟩
    go_wp2
    go_ret2
    exact ⟨_, by rw [V.out.2]; rfl, by rw [V.out.1]; exact (RowsL.nil _ 0 _ (Nat.le_refl _)).at, by rw [HB.out]; exact below_drewN B1.out _⟩
  | true =>
    have D := of_desB hp
    have V : Hid (IncidenceMatrix_0 n xss = gridL n.toNat xss.length (inF xss) ∧ IncidenceMatrix_1 n xss = 0) := by unfold Hid IncidenceMatrix_0 IncidenceMatrix_1; rw [hp]; exact ⟨rfl, rfl⟩
    rw [hp] at HO
    obtain ⟨N, rfl⟩ : ∃ N : Nat, n = N := ⟨n.toNat, by have := D.1; omega⟩
    have n32 : N ≤ 32 := by have := D.2.1; omega
    have m128 : m ≤ 128 := by have := D.2.2.1; omega
    have HK : Hid (∀ W2, Below B W W2 → ∀ j, j < m → ∃ g1 o1 u, a = some ⟨g1, o1, none⟩ ∧ W2.cell? ⟨g1, o1 + j, none⟩ = some u ∧ ∀ x : Nat, Calls Tryd.prog 39 #[u, .int .i64 (x : Int)] W2 fun e w' => e = .returned (.bool (decide ((x : Int) ∈ xss.getD j []))) ∧ W2 = w') := fun W2 hW j hj => by
      obtain ⟨g1, o1, u, e1, e2, e3⟩ := K W2 hW j hj
      exact ⟨g1, o1, u, e1, e2, fun x => shas W2 u _ _ e3⟩
    have DC := Lib.hid (fun W2 (h : Below (B + 1) w1 W2) => And.intro (show W2.cell? ⟨B, 0, none⟩ = some (.int .i64 (N : Int)) from (h.cell (p := ⟨B, 0, none⟩) (Nat.lt_succ_self B)).trans c0) (show W2.cell? ⟨B, 1, none⟩ = some (.slice a m cap) from (h.cell (p := ⟨B, 1, none⟩) (Nat.lt_succ_self B)).trans c1))
    have BW := Lib.hid (fun W2 (h : Below (B + 1) w1 W2) => B1.out.trans (h.mono (Nat.le_succ B)))
    have FE : Hid (∀ x i, inF xss x i = if decide ((x : Int) ∈ xss.getD i []) = true then 1 else 0) := fun x i => rfl
    have VV : Hid (IncidenceMatrix_0 (N : Int) xss = gridL N m (inF xss)) := by rw [V.out.1, Int.toNat_natCast, hm]; rfl
    obtain ⟨F, hF⟩ : ∃ F, inF xss = F := ⟨_, rfl⟩
    rw [hF] at FE VV
    have GS : Hid (∀ x, gridL (x + 1) m F = gridL x m F ++ [(List.range m).map (F x)]) := fun x => gridL_succ x m F
    have GL : Hid (∀ x, (gridL x m F).length = x) := fun x => gridL_length x m F
    have RS : Hid (∀ x j, (List.range (j + 1)).map (F x) = (List.range j).map (F x) ++ [F x j]) := fun x j => rowf_snoc (F x) j
    have RL : Hid (∀ x j, ((List.range j).map (F x)).length = j) := fun x j => by simp
    have R0 : Hid (∀ x, (List.range 0).map (F x) = []) := fun x => rfl
    have ZD : Hid (∀ d, (w1.drewN d).heap.size = B + 1 ∧ Below (B + 1) w1 (w1.drewN d)) := fun d => ⟨z1, below_drewN (Below.refl _ _) d⟩
    have ZZ : Hid (w1.heap.size = B + 1) := z1
    clear hp hv A1 b1 K hF hm
    go_enter Tryd.func28, Tryd.ntmps28
    go_wp2_with fail
    refine HO.out.mono ?_
    rintro e w2 ⟨rfl, d, rfl⟩
    obtain ⟨z2, b2⟩ := ZD.out d
    obtain ⟨w2, hw2⟩ : ∃ w2, w1.drewN d = w2 := ⟨_, rfl⟩
    rw [hw2] at z2 b2 ⊢
    have M0 : Hid (RowsL (w2.alloc (.cells #[] 37)) (B + 1) (w2.alloc (.cells #[] 37)).heap.size (.slice (some ⟨w2.heap.size, 0, none⟩) 0 0) (gridL 0 m F)) := by
      have := RowsL.made w2 (B + 1) 0 #[] (by omega) (by decide) rfl
      rw [← World.size_alloc w2 (.cells #[] 37)] at this
      exact this
    have B3 : Hid (Below (B + 1) w1 (w2.alloc (.cells #[] 37))) := b2.alloc (by omega) _
    clear hw2 c0 c1 hw1 hB
    obtain ⟨w3, hw3⟩ : ∃ w3, w2.alloc (.cells #[] 37) = w3 := ⟨_, rfl⟩
    rw [hw3, z2] at M0
    rw [hw3] at B3
    go_wp2
    try rw [hw3]
    clear hw3
    go_loopw [4, 5] (fun rv i wr => ∃ x : Nat, x ≤ N ∧ i = .int .i64 x ∧ Hid (RowsL wr (B + 1) wr.heap.size rv (gridL x m F)) ∧ Hid (Below (B + 1) w1 wr)) (fun _ i _ => N - (intOf i).toNat)
    case atStart => exact ⟨0, by omega, rfl, M0, B3⟩
    case round =>
      obtain ⟨x, hx, rfl, hR, hBl⟩ := hrel
      obtain ⟨c0, c1⟩ := DC.out wr hBl.out
      by_cases cx : x < N
      · have k1 : decide (x < N) = true := by simpa using cx
        have k1' : decide ((x : Int) < (N : Int)) = true := decide_eq_true (by omega)
        have w4 := IntWalk.i64_in ((x : Int) + 1) (by omega)
        have gx := GL.out x
        have SX := Lib.hid (GS.out x)
        have bz : B + 1 ≤ wr.heap.size := by have := hBl.out.size; have := ZZ.out; omega
        obtain ⟨b, hb⟩ : ∃ b, wr.heap.size = b := ⟨_, rfl⟩
        rw [hb] at bz hR
        have I0 : Hid (Ints (wr.alloc (.cells #[] 2)) b (.slice (some ⟨b, 0, none⟩) 0 0) ((List.range 0).map (F x))) := by
          rw [← hb]; exact World.ownsRow_made wr #[] 0 (Nat.le_refl _) (by decide) rfl
        have B4 : Hid (Below b wr (wr.alloc (.cells #[] 2))) := by unfold Hid; rw [← hb]; exact (Below.refl _ _).alloc (Nat.le_refl _) _
        obtain ⟨wq, rfl⟩ : ∃ wq : World, wq = wr := ⟨_, rfl⟩
        obtain ⟨w5, hw5⟩ : ∃ w5, wq.alloc (.cells #[] 2) = w5 := ⟨_, rfl⟩
        rw [hw5] at I0 B4
        have NX : Hid (∀ W2, Below b wq W2 → RowsL W2 (B + 1) b u4 (gridL x m F) ∧ Below (B + 1) w1 W2 ∧ b ≤ W2.heap.size) := fun W2 h => ⟨hR.out.below h (Nat.le_of_eq hb), hBl.out.trans (h.mono bz), by have := h.size; omega⟩
        go_wp2
        try rw [hw5]
        try rw [hb]
        clear c0 c1 hw5 hb
        go_loopw [6, 7] (fun rv i w6 => ∃ j : Nat, j ≤ m ∧ i = .int .i64 j ∧ Hid (Ints w6 b rv ((List.range j).map (F x))) ∧ Hid (Below b wq w6)) (fun _ i _ => m - (intOf i).toNat)
        case atStart => exact ⟨0, by omega, rfl, I0, B4⟩
        case round =>
          obtain ⟨j, hj, rfl, hI, hB6⟩ := hrel
          obtain ⟨NR, NB, nz⟩ := NX.out wr hB6.out
          obtain ⟨c0, c1⟩ := DC.out wr NB
          by_cases cj : j < m
          · have k3 : decide (j < m) = true := by simpa using cj
            have k3' : decide ((j : Int) < (m : Int)) = true := decide_eq_true (by omega)
            have w5 := IntWalk.i64_in ((j : Int) + 1) (by omega)
            have j0 : (0 : Int) ≤ (j : Int) := by omega
            have j1 : (j : Int) < (m : Int) := by omega
            obtain ⟨g1, o1, ur, rfl, e2, hc⟩ := HK.out wr (BW.out wr NB) j cj
            have h1 := Lib.hid (hc x)
            have RX := RS.out x j
            have lj := RL.out x j
            have LJ : ((List.range j).map (F x)).length < 1000000000000 := by omega
            rw [FE.out x j] at RX
            obtain ⟨b1, hb1⟩ : ∃ q, decide ((x : Int) ∈ xss.getD j []) = q := ⟨_, rfl⟩
            rw [hb1] at h1 RX
            clear hc hb1 NR NB lj
            cases b1 with
            | false =>
              have RX2 := Lib.hid RX
              clear RX
              go_wp2_with fail
              refine h1.out.mono ?_
              rintro e w9 ⟨rfl, rfl⟩
              go_wp2_with (at_builtin; refine wpList_push wr (by rfl) _ _ (by rfl) b _ _ (by rfl) hI.out 0 _ (by rfl) LJ nz ?_; intro v' w8 hn hb; have HN := Lib.hid hn; have HB8 := Lib.hid hb; clear hn hb)
              go_roundw
              case rel => exact ⟨j + 1, by omega, by go_num, by unfold Hid; rw [RX2.out]; exact HN.out, hB6.out.trans HB8.out⟩
              case measure => simp [intOf]; omega
            | true =>
              have RX2 := Lib.hid RX
              clear RX
              go_wp2_with fail
              refine h1.out.mono ?_
              rintro e w9 ⟨rfl, rfl⟩
              go_wp2_with (at_builtin; refine wpList_push wr (by rfl) _ _ (by rfl) b _ _ (by rfl) hI.out 1 _ (by rfl) LJ nz ?_; intro v' w8 hn hb; have HN := Lib.hid hn; have HB8 := Lib.hid hb; clear hn hb)
              go_roundw
              case rel => exact ⟨j + 1, by omega, by go_num, by unfold Hid; rw [RX2.out]; exact HN.out, hB6.out.trans HB8.out⟩
              case measure => simp [intOf]; omega
          · have k3 : decide (j < m) = false := by simpa using cj
            have k3' : decide ((j : Int) < (m : Int)) = false := decide_eq_false (by omega)
            obtain rfl : j = m := by omega
            have NR2 := Lib.hid NR
            have NB2 := Lib.hid NB
            obtain ⟨ra, rc, hra⟩ := hI.out.len_eq
            rw [RL.out] at hra
            subst hra
            obtain ⟨va, vc, rfl⟩ : ∃ a c, u4 = .slice a x c := by
              obtain ⟨a, c, h, -⟩ := NR.at.shape; rw [gx] at h; exact ⟨a, c, h⟩
            have gl : (gridL x j F).length < 1000000000 := by omega
            have bB : B + 1 ≤ b := bz
            clear NR NB
            go_wp2_with (at_builtin; refine wpList_pushR wr (by rfl) _ _ (by rfl) (B + 1) b _ _ _ _ (by rfl) NR2.out hI.out _ (by rfl) gl bB ?_; intro v' w8 hn hb; have HN := Lib.hid hn; have HB8 := Lib.hid hb; clear hn hb)
            go_roundw
            case rel => exact ⟨x + 1, by omega, by go_num, by unfold Hid; rw [SX.out]; exact HN.out, NB2.out.trans HB8.out⟩
            case measure => simp [intOf]; omega
      · have k1 : decide (x < N) = false := by simpa using cx
        have k1' : decide ((x : Int) < (N : Int)) = false := decide_eq_false (by omega)
        obtain rfl : x = N := by omega
        have GX := Lib.hid (GL.out x)
        obtain ⟨va, vc, rfl, -⟩ := hR.out.at.shape
        go_wp2
        go_ret2
        exact ⟨_, by rw [V.out.2]; rfl, by rw [VV.out]; exact hR.out.at, by rw [HB.out]; exact BW.out _ hBl.out⟩
end Go.Proofs.YtpgjomndfkkchabDoor
